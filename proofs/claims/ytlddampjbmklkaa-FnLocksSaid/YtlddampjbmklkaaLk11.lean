
/- What LocksLaw rests on, part 11: contracts and mathematics. -/
import Derived.Test.YtlddampjbmklkaaLk7
import Derived.Test.YtlddampjbmklkaaLk6
import Derived.Test.YtlddampjbmklkaaLk3
import Derived.Test.YtlddampjbmklkaaLk5
import Derived.Test.YtlddampjbmklkaaLk1
import Derived.Deep.RegionHeld3
import Derived.Deep.DeepCutAuto
namespace Go.Proofs.Ytlddampjbmklkaa
open Go.RowKit
set_option maxRecDepth 100000
def FleetDrawn (l : List ShipD) : Prop := l.length ≤ 6 ∧ ∀ j x, l[j]? = some x → shipGood j x
theorem drawn_ship_ok {j : Nat} {s : ShipD} (hj : j < 6) (h : shipGood j s) : shipB s = true := by
  obtain ⟨n1, n2, n3, n4, n5, n6, n7, n8, n9⟩ := h
  unfold shipB
  rw [n1, names_digit j (by omega), inB_mk (by omega) (by omega), inB_mk (by omega) (by omega), inB_mk (by omega) (by omega), inB_mk (by omega) (by omega)]
  rfl
theorem drawn_ship_wf {j : Nat} {s : ShipD} (h : shipGood j s) : s.wf := by
  obtain ⟨n1, n2, n3, n4, n5, n6, n7, n8, n9⟩ := h
  have hz : (shipName j).size = 2 := by unfold shipName; rw [ByteArray.size_append, strOfNums_size]; rfl
  refine ⟨by rw [n1, hz]; unfold maxLen; omega, ?_, ?_, ?_, ?_⟩ <;> exact WalkArith.wf_i64 (by omega)
theorem drawn_wf {l : List ShipD} (h : FleetDrawn l) : ∀ x ∈ l, ShipD.wf x := by
  intro x hx
  obtain ⟨j, hj⟩ := List.getElem?_of_mem hx
  exact drawn_ship_wf (h.2 j x hj)
theorem drawn_fleet {l : List ShipD} (h : FleetDrawn l) : fleetB l = true := by
  obtain ⟨h6, h⟩ := h
  refine fleetB_mk h6 (fun j hj => ?_)
  have hx : l[j]? = some l[j] := List.getElem?_eq_getElem hj
  have hg := h j _ hx
  have hi : shipI l l[j].name = (j : Int) := by
    refine firstI_at (k := j) (x := l[j]) (fun i hi y hy => ?_) hx (by simp [shipNm])
    have hiy := (h i y hy).1
    show (y.name.toList == l[j].name.toList) = false
    rw [hiy, hg.1]
    exact names_apart i j (by omega) (by omega) (by omega)
  rw [flAt_at hx, drawn_ship_ok (by omega) hg, hi]
  simp
end Go.Proofs.Ytlddampjbmklkaa
namespace Go.Proofs.Ytlddampjbmklkaa
open Go.RowKit
set_option maxRecDepth 100000
/-- The first i ships are different ones that exist; out are their lengths. -/
def LengTo (fl : List ShipD) (s : List Int) (i : Nat) (out : List Int) : Prop := lensFrom fl [] s = (lensFrom fl (s.take i) (s.drop i)).map (out ++ ·)
theorem LengTo.zero (fl : List ShipD) (s : List Int) : LengTo fl s 0 [] := by
  unfold LengTo
  rw [List.take_zero, List.drop_zero]
  cases lensFrom fl [] s <;> rfl
theorem LengTo.no {fl : List ShipD} {s : List Int} {i : Nat} {out : List Int} {n : Int} (h : LengTo fl s i out) (hn : s[i]? = some n) (hb : inB n 0 ((fl.length : Int) - 1) = false ∨ (s.take i).any (· == n) = true) : lensO fl s = none := by
  obtain ⟨hi, rfl⟩ := List.getElem?_eq_some_iff.1 hn
  unfold LengTo at h
  rw [List.drop_eq_getElem_cons hi] at h
  have e : lensFrom fl (s.take i) (s[i] :: s.drop (i + 1)) = none := by
    unfold lensFrom
    rw [if_neg]
    rintro ⟨h1, h2⟩
    rcases hb with hb | hb
    · rw [h1] at hb; cases hb
    · rw [h2] at hb; cases hb
  rw [e] at h
  unfold lensO
  rw [h]
  rfl
theorem LengTo.next {fl : List ShipD} {s : List Int} {i : Nat} {out : List Int} {n : Int} {x : ShipD} (h : LengTo fl s i out) (hn : s[i]? = some n) (h1 : inB n 0 ((fl.length : Int) - 1) = true) (h2 : (s.take i).any (· == n) = false) (hx : fl[n.toNat]? = some x) : LengTo fl s (i + 1) (out ++ [x.length]) := by
  obtain ⟨hi, rfl⟩ := List.getElem?_eq_some_iff.1 hn
  unfold LengTo at h ⊢
  rw [h, List.drop_eq_getElem_cons hi]
  have e : lensFrom fl (s.take i) (s[i] :: s.drop (i + 1)) = (lensFrom fl (s.take i ++ [s[i]]) (s.drop (i + 1))).map (fun t => x.length :: t) := by
    conv => lhs; unfold lensFrom
    rw [if_pos ⟨h1, h2⟩, hx]
  rw [e, ← take_snoc' s i s[i] hn]
  cases lensFrom fl (s.take (i + 1)) (s.drop (i + 1)) with
  | none => rfl
  | some t => simp
theorem LengTo.all {fl : List ShipD} {s out : List Int} (h : LengTo fl s s.length out) : lensO fl s = if out.length ≤ 8 then some out else none := by
  unfold LengTo at h
  rw [List.drop_eq_nil_of_le (Nat.le_refl _)] at h
  have e : lensFrom fl [] s = some out := by rw [h]; simp [lensFrom]
  unfold lensO
  rw [e]
set_option maxHeartbeats 8000000 in
theorem specLengths (vf vs : Value) (fl : List ShipD) (s : List Int) (w : World) (hf : SlShip w vf fl) (hs : SlInt w vs s) (hn : s.length ≤ 9000000) :
    Calls Try.prog 57 #[vf, vs] w fun e w' => ∃ v, e = .returned (.tuple #[v, .bool (lensO fl s).isSome]) ∧ (∀ t, lensO fl s = some t → OwnInt w' w.heap.size v t) ∧ Below w.heap.size w w' := by
  have HF := Lib.hid hf
  have HS := Lib.hid hs
  have hfl := hf.1
  obtain ⟨Af, cf, rfl⟩ := hf.at
  obtain ⟨As, cs, rfl⟩ := hs.at
  have hcap : 0 < s.length → s.length ≤ cs := fun h0 => by
    rcases hs.2 with ⟨he, _⟩ | ⟨g, o, c, e, _, hc, _⟩
    · rw [he] at h0; simp at h0
    · injection e with _ _ e3; omega
  have HCAP := Lib.hid hcap
  obtain ⟨m, hm⟩ : ∃ m, s.length = m := ⟨_, rfl⟩
  have HM := Lib.hid hm
  obtain ⟨nf, hnf⟩ : ∃ m, fl.length = m := ⟨_, rfl⟩
  have HNF := Lib.hid hnf
  rw [hnf] at hfl
  rw [hm] at hn
  have L0 := Lib.hid (Liv.build (Liv.nil w) 0 [] (by simp))
  clear hf hs hcap
  try rw [hm]
  try rw [hnf]
  clear hm hnf
  go_enter Try.func57, Try.ntmps57
  go_wp2
  go_loopw [6, 12] (fun q t wr => ∃ (i : Nat) (u : Value) (out : List Int), i ≤ m ∧ out.length = i ∧ q = u ∧ t = .int .i64 (i : Int) ∧ Hid (LengTo fl s i out) ∧ Hid (Liv w wr [(0, u, out)])) (fun _ t _ => m - (intOf t).toNat)
  case atStart => exact ⟨0, _, [], Nat.zero_le _, rfl, rfl, rfl, Lib.hid (LengTo.zero _ _), L0⟩
  case round =>
    obtain ⟨i, u, out, hi, hoi, rfl, rfl, hT, hL⟩ := hrel
    have hzs := hL.out.low.size
    by_cases hlt : i < m
    rotate_left
    · obtain rfl : i = m := by omega
      have HO := Lib.hid (hL.out.own _ List.mem_cons_self)
      obtain ⟨Ao, co, ho⟩ := own_form HO.out
      have E := Lib.hid (LengTo.all (by rw [HM.out]; exact hT.out))
      simp only at ho
      subst ho
      rw [hoi] at HO ⊢
      by_cases h8 : i ≤ 8
      · have E2 := Lib.hid (E.out.trans (if_pos (by omega)))
        have hd : decide ((i : Int) ≤ 8) = true := decide_eq_true (by omega)
        go_wp2
        refine bodyPost_ret (v := .tuple #[.slice Ao i co, .bool true]) (by simp [results, Try.results57, go_sem]) rfl ⟨.slice Ao i co, by rw [E2.out]; rfl, fun t ht => ?_, hL.out.low⟩
        rw [E2.out] at ht
        injection ht with ht
        subst ht
        exact HO.out
      · have E2 := Lib.hid (E.out.trans (if_neg (by omega)))
        have hd : decide ((i : Int) ≤ 8) = false := decide_eq_false (by omega)
        go_wp2
        refine bodyPost_ret (v := .tuple #[.slice Ao i co, .bool false]) (by simp [results, Try.results57, go_sem]) rfl ⟨.slice Ao i co, by rw [E2.out]; rfl, fun t ht => ?_, hL.out.low⟩
        rw [E2.out] at ht
        cases ht
    have hcap := HCAP.out (by rw [HM.out]; omega)
    rw [HM.out] at hcap
    obtain ⟨n, hx⟩ : ∃ n, s[i]? = some n := ⟨_, List.getElem?_eq_getElem (by have := HM.out; omega)⟩
    have HX := Lib.hid hx
    have TK := Lib.hid (SlOf.takeP (k := i) (HS.out.below hL.out.low) (by have := HM.out; omega))
    rcases HS.out.2 with ⟨he, _⟩ | ⟨gl, ol, cl', e, lpos, lcap, lc⟩
    · rw [he] at hx; simp at hx
    injection e with ea e2 e3
    subst ea
    clear e2 e3 lpos lcap
    have yx := cell_onV (SlInt.cells lc i n hx) hL.out.low
    clear lc hx
    have wsub : IntKind.i64.wrap ((nf : Int) - 1) = (nf : Int) - 1 := by rw [IntKind.wrap_i64]; omega
    obtain ⟨b1, hb1⟩ : ∃ b, inB n 0 ((nf : Int) - 1) = b := ⟨_, rfl⟩
    have Hb1 := Lib.hid hb1
    obtain ⟨b2, hb2⟩ : ∃ b, (s.take i).any (· == n) = b := ⟨_, rfl⟩
    have Hb2 := Lib.hid hb2
    have CH := Lib.hid (fun (v : Value) (w : World) (h : SlInt w v (s.take i)) => by have := specHas v (s.take i) n w h; rw [hb2] at this; exact this)
    clear hb1 hb2
    go_wp2_with fail
    refine (l01In_any _ _ _ _).mono ?_
    rw [Hb1.out]
    rintro e w3 ⟨rfl, rfl⟩
    cases b1 with
    | false =>
      have E := Lib.hid (hT.out.no HX.out (.inl (by rw [HNF.out]; exact Hb1.out)))
      go_wp2
      refine bodyPost_ret (v := .tuple #[.slice none 0 0, .bool false]) (by simp [results, Try.results57, go_sem]) rfl ⟨.slice none 0 0, by rw [E.out]; rfl, fun t ht => ?_, hL.out.low⟩
      rw [E.out] at ht
      cases ht
    | true =>
    go_wp2_with fail
    refine (CH.out _ _ TK.out).mono ?_
    rintro e w3 ⟨rfl, rfl⟩
    cases b2 with
    | true =>
      have E := Lib.hid (hT.out.no HX.out (.inr Hb2.out))
      go_wp2
      refine bodyPost_ret (v := .tuple #[.slice none 0 0, .bool false]) (by simp [results, Try.results57, go_sem]) rfl ⟨.slice none 0 0, by rw [E.out]; rfl, fun t ht => ?_, hL.out.low⟩
      rw [E.out] at ht
      cases ht
    | false =>
    have hin := of_decide_eq_true (show decide (0 ≤ n ∧ n ≤ (nf : Int) - 1) = true from Hb1.out)
    obtain ⟨j, rfl⟩ : ∃ j : Nat, n = (j : Int) := ⟨n.toNat, by omega⟩
    obtain ⟨x, hx⟩ : ∃ x, fl[j]? = some x := ⟨_, List.getElem?_eq_getElem (by have := HNF.out; omega)⟩
    have HT := Lib.hid (hT.out.next HX.out (by rw [HNF.out]; exact Hb1.out) Hb2.out (x := x) (by simpa using hx))
    rcases HF.out.2 with ⟨he, _⟩ | ⟨gf, of, cf', e, fpos, fcap, fc⟩
    · rw [he] at hx; simp at hx
    injection e with ea e2 e3
    subst ea
    clear e2 e3 fpos fcap
    have yf := cell_onV (SlShip.cells fc j x hx).2.1 hL.out.low
    have L2 := Liv.build hL.out 1 [x.length] (by simp)
    have HNEW := Lib.hid (OwnInt.sl (L2.own _ List.mem_cons_self) (by simp))
    have L2 := Lib.hid L2
    clear fc hx yx
    go_wp2_with (at_builtin; refine wpList_plain rfl fun K hK => wp_of_step (ops := #[]) rfl (step_liv L2.out (L' := []) (τ := 0) (v := u6) (u := .slice (some ⟨wr.heap.size, 0, none⟩) 1 1) (l := out) (m := [x.length]) 0 rfl (.tmp 30) (.tmp 36) rfl rfl rfl (List.mem_cons_of_mem _ List.mem_cons_self) HNEW.out (by simp; omega) (fun q hq => by cases hq) ?_); intro v5 x5 hl5; refine hK _ _ ?_; have L5 := Lib.hid hl5; clear hl5)
    go_roundw
    case rel => exact ⟨i + 1, _, _, by omega, by simp [hoi], rfl, by go_num, HT, L5⟩
    case measure => simp [intOf]; omega
end Go.Proofs.Ytlddampjbmklkaa
