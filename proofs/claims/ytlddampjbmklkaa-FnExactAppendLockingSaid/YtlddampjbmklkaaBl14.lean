
/- What ExactLockPlanOk and ExactAppendLocking rests on, part 14: contracts and mathematics. -/
import Derived.Test.YtlddampjbmklkaaBl7
import Derived.Test.YtlddampjbmklkaaBl5
import Derived.Test.YtlddampjbmklkaaBl9
import Derived.Test.YtlddampjbmklkaaBl2
import Derived.Deep.AppendLies
import Derived.Deep.Upon
import Derived.Lib.SliceRun
import Derived.Deep.RegionHeld3
import Derived.Deep.DeepCutAuto
import Derived.Test.YtlddampjbmklkaaBl11
import Derived.Test.YtlddampjbmklkaaBl6
import Derived.Test.YtlddampjbmklkaaBl1
namespace Go.Proofs.Ytlddampjbmklkaa
open Go.RowKit
set_option maxRecDepth 100000
theorem OwnLocks.below {w w' : World} {base : Nat} {v : Value} {rs : List LockR} (h : OwnLocks w base v rs) (hb : Below w.heap.size w w') : OwnLocks w' base v rs := ⟨own_below h.1 hb, fun r hr => own_below (h.2.1 r hr) hb, h.2.2.1, h.2.2.2⟩
theorem OwnLocks.lo {w : World} {base base' : Nat} {v : Value} {rs : List LockR} (h : OwnLocks w base v rs) (hb : base' ≤ base) : OwnLocks w base' v rs := ⟨own_lo h.1 hb, fun r hr => own_lo (h.2.1 r hr) hb, h.2.2.1, h.2.2.2⟩
/-- The lockings rs are over memory that is new since w; what w held is as it was. -/
structure GathL (w : World) (v : Value) (rs : List LockR) (wr : World) : Prop where
  own : OwnLocks wr w.heap.size v rs
  low : Below w.heap.size w wr
theorem GathL.below {w wr W : World} {v : Value} {rs : List LockR} (h : GathL w v rs wr) (hb : Below wr.heap.size wr W) : GathL w v rs W := ⟨h.own.below hb, h.low.trans (hb.mono h.low.size)⟩
theorem GathL.made {w wr : World} (hb : Below w.heap.size w wr) : GathL w (.slice (some ⟨wr.heap.size, 0, none⟩) 0 0) [] (wr.alloc (.cells #[] 38)) := by
  have h := GathO.made (k := 3) (cs := LockR.cells) (t := 38) hb
  exact ⟨⟨h.1, fun r hr => absurd hr (by simp), List.Pairwise.nil, fun r hr => absurd hr (by simp)⟩, h.2⟩
/-- One locking more: its ships in a block of their own, new since W. -/
theorem GathL.next {w W W1 W2 : World} {v u : Value} {rs : List LockR} {st : Int} {up : Bool} {s : List Int} {g4 cap4 : Nat} (h : GathL w v rs W) (hb : Below W.heap.size W W1) (ho : OwnInt W1 W.heap.size u s)
    (hown : W2.ownsRow w.heap.size 38 3 (.slice (some ⟨g4, 0, none⟩) (rs.length + 1) cap4) (rs.length + 1) (rs.flatMap LockR.cells ++ LockR.cells ⟨st, up, u, s⟩)) (hgr : W1.grownBy W2 v.ownBlock) (hor : v.ownBlock = some g4 ∨ g4 = W1.heap.size) :
    GathL w (.slice (some ⟨g4, 0, none⟩) (rs.length + 1) cap4) (rs ++ [⟨st, up, u, s⟩]) W2 := by
  obtain ⟨⟨o1, o2, o3, o4⟩, hl⟩ := h
  have hz := hl.size
  have hz1 := hb.size
  refine ⟨⟨?_, fun r hr => ?_, ?_, fun r hr g hg hg' => ?_⟩, (hl.trans (hb.mono hz)).grown hgr (by omega) (fun b e => (own_ge o1 e).1)⟩
  · simpa [OwnOf] using hown
  · rcases List.mem_append.1 hr with hr | hr
    · exact own_kept (own_below (o2 r hr) hb) hgr (fun b hv e => o4 r hr b e hv)
    · simp at hr
      subst hr
      exact own_lo (own_kept ho hgr (fun b hv e => by have := (own_ge o1 e).2; have := (own_ge ho hv).1; omega)) hz
  · rw [List.pairwise_append]
    refine ⟨o3, by simp, fun a ha b hb' g hg hg' => ?_⟩
    simp at hb'
    subst hb'
    have := (own_ge (o2 a ha) hg).2
    have := (own_ge ho hg').1
    omega
  · simp [Value.ownBlock] at hg
    subst hg
    rcases List.mem_append.1 hr with hr | hr
    · rcases hor with e | e
      · exact o4 r hr g4 e hg'
      · have := (own_ge (o2 r hr) hg').2
        omega
    · simp at hr
      subst hr
      rcases hor with e | e
      · have := (own_ge o1 e).2
        have := (own_ge ho hg').1
        omega
      · have := (own_ge ho hg').2
        omega
theorem GathL.form {w wr : World} {v : Value} {rs : List LockR} (h : GathL w v rs wr) : ∃ A c, v = .slice A rs.length c := own_form h.own.1
theorem lock_one (r : LockR) (hv : r.v.oneCell' = true) : ∀ u ∈ LockR.cells r, u.oneCell' = true := by
  intro u hu
  simp at hu
  rcases hu with rfl | rfl | rfl
  · rfl
  · rfl
  · exact hv
end Go.Proofs.Ytlddampjbmklkaa
namespace Go.Proofs.Ytlddampjbmklkaa
open Go.RowKit
set_option maxRecDepth 100000
set_option maxHeartbeats 2000000 in
theorem cloneL (v : Value) (l : List Int) (w : World) (h : SlInt w v l) (hn : l.length ≤ 9000000) :
    Calls Try.prog 70 #[v] w (NewInt l w) := by
  have q26 : ∀ (w : World) (a : Option Addr) (n c n' c' : Nat), (binOp .eql 33 (.slice a n c) (.slice none n' c')).run Try.prog w = .ok (.bool a.isNone) w := fun w a n c n' c' => Lib.run_eql_slice_nil w _ _ a n c n' c' Try.underlying33
  have L1 := Liv.build (Liv.nil w) 0 [] (by simp)
  have RS := Lib.hid (h.below L1.low)
  have L1 := Lib.hid L1
  have HS := Lib.hid h
  obtain ⟨A, c, rfl⟩ := h.at
  clear h
  cases A with
  | none =>
    have e : l = [] := by
      rcases HS.out.2 with ⟨he, _⟩ | ⟨g, o, c', e, _, _, _⟩
      · exact he
      · injection e with e1; cases e1
    have E := Lib.hid e
    clear e RS L1
    go_enter Try.func70, Try.ntmps70
    go_wp2
    go_ret
    exact ⟨_, rfl, by rw [E.out]; exact World.ownsRow_nil _ _ _ _, Below.refl _ _⟩
  | some a =>
    obtain ⟨m, hm⟩ : ∃ m, l.length = m := ⟨_, rfl⟩
    rw [hm] at RS hn
    try rw [hm]
    have HM := Lib.hid hm
    clear hm
    go_enter Try.func70, Try.ntmps70
    go_wp2_with (at_builtin; refine wpList_plain rfl fun K hK => wp_of_step (ops := #[]) rfl (step_liv L1.out (L' := []) (τ := 0) (v := .slice (some ⟨w.heap.size, 0, none⟩) 0 0) (u := .slice (some a) m c) (l := []) (m := l) 0 rfl (.tmp 5) (.tmp 6) rfl rfl rfl List.mem_cons_self RS.out (by rw [HM.out]; simp; omega) (fun q hq => by cases hq) ?_); intro v5 x5 hl5; refine hK _ _ ?_; have L5 := Lib.hid hl5; clear hl5)
    have HO := Lib.hid (L5.out.own _ List.mem_cons_self)
    have HL := Lib.hid L5.out.low
    clear L5
    go_ret
    exact ⟨_, rfl, HO.out, HL.out⟩
end Go.Proofs.Ytlddampjbmklkaa
namespace Go.Proofs.Ytlddampjbmklkaa
open Go.RowKit
set_option maxRecDepth 100000
/-- The first i ships are different ones that exist; out are their lengths. -/
def LengTo (fl : List ShipD) (s : List Int) (i : Nat) (out : List Int) : Prop := lensFrom fl [] s = (lensFrom fl (s.take i) (s.drop i)).map (out ++ ·)
theorem LengTo.zero (fl : List ShipD) (s : List Int) : LengTo fl s 0 [] := by
  unfold LengTo
  rw [List.take_zero, List.drop_zero]
  cases lensFrom fl [] s <;> rfl
theorem LengTo.no {fl : List ShipD} {s : List Int} {i : Nat} {out : List Int} {n : Int} (h : LengTo fl s i out) (hn : s[i]? = some n) (hb : inB n 0 ((fl.length : Int) - 1) = false ∨ (s.take i).any (· == n) = true) : lensO fl s = none := by
  obtain ⟨hi, rfl⟩ := List.getElem?_eq_some_iff.1 hn
  unfold LengTo at h
  rw [List.drop_eq_getElem_cons hi] at h
  have e : lensFrom fl (s.take i) (s[i] :: s.drop (i + 1)) = none := by
    unfold lensFrom
    rw [if_neg]
    rintro ⟨h1, h2⟩
    rcases hb with hb | hb
    · rw [h1] at hb; cases hb
    · rw [h2] at hb; cases hb
  rw [e] at h
  unfold lensO
  rw [h]
  rfl
theorem LengTo.next {fl : List ShipD} {s : List Int} {i : Nat} {out : List Int} {n : Int} {x : ShipD} (h : LengTo fl s i out) (hn : s[i]? = some n) (h1 : inB n 0 ((fl.length : Int) - 1) = true) (h2 : (s.take i).any (· == n) = false) (hx : fl[n.toNat]? = some x) : LengTo fl s (i + 1) (out ++ [x.length]) := by
  obtain ⟨hi, rfl⟩ := List.getElem?_eq_some_iff.1 hn
  unfold LengTo at h ⊢
  rw [h, List.drop_eq_getElem_cons hi]
  have e : lensFrom fl (s.take i) (s[i] :: s.drop (i + 1)) = (lensFrom fl (s.take i ++ [s[i]]) (s.drop (i + 1))).map (fun t => x.length :: t) := by
    conv => lhs; unfold lensFrom
    rw [if_pos ⟨h1, h2⟩, hx]
  rw [e, ← take_snoc' s i s[i] hn]
  cases lensFrom fl (s.take (i + 1)) (s.drop (i + 1)) with
  | none => rfl
  | some t => simp
theorem LengTo.all {fl : List ShipD} {s out : List Int} (h : LengTo fl s s.length out) : lensO fl s = if out.length ≤ 8 then some out else none := by
  unfold LengTo at h
  rw [List.drop_eq_nil_of_le (Nat.le_refl _)] at h
  have e : lensFrom fl [] s = some out := by rw [h]; simp [lensFrom]
  unfold lensO
  rw [e]
set_option maxHeartbeats 8000000 in
theorem specLengths (vf vs : Value) (fl : List ShipD) (s : List Int) (w : World) (hf : SlShip w vf fl) (hs : SlInt w vs s) (hn : s.length ≤ 9000000) :
    Calls Try.prog 57 #[vf, vs] w fun e w' => ∃ v, e = .returned (.tuple #[v, .bool (lensO fl s).isSome]) ∧ (∀ t, lensO fl s = some t → OwnInt w' w.heap.size v t) ∧ Below w.heap.size w w' := by
  have HF := Lib.hid hf
  have HS := Lib.hid hs
  have hfl := hf.1
  obtain ⟨Af, cf, rfl⟩ := hf.at
  obtain ⟨As, cs, rfl⟩ := hs.at
  have hcap : 0 < s.length → s.length ≤ cs := fun h0 => by
    rcases hs.2 with ⟨he, _⟩ | ⟨g, o, c, e, _, hc, _⟩
    · rw [he] at h0; simp at h0
    · injection e with _ _ e3; omega
  have HCAP := Lib.hid hcap
  obtain ⟨m, hm⟩ : ∃ m, s.length = m := ⟨_, rfl⟩
  have HM := Lib.hid hm
  obtain ⟨nf, hnf⟩ : ∃ m, fl.length = m := ⟨_, rfl⟩
  have HNF := Lib.hid hnf
  rw [hnf] at hfl
  rw [hm] at hn
  have L0 := Lib.hid (Liv.build (Liv.nil w) 0 [] (by simp))
  clear hf hs hcap
  try rw [hm]
  try rw [hnf]
  clear hm hnf
  go_enter Try.func57, Try.ntmps57
  go_wp2
  go_loopw [6, 12] (fun q t wr => ∃ (i : Nat) (u : Value) (out : List Int), i ≤ m ∧ out.length = i ∧ q = u ∧ t = .int .i64 (i : Int) ∧ Hid (LengTo fl s i out) ∧ Hid (Liv w wr [(0, u, out)])) (fun _ t _ => m - (intOf t).toNat)
  case atStart => exact ⟨0, _, [], Nat.zero_le _, rfl, rfl, rfl, Lib.hid (LengTo.zero _ _), L0⟩
  case round =>
    obtain ⟨i, u, out, hi, hoi, rfl, rfl, hT, hL⟩ := hrel
    have hzs := hL.out.low.size
    by_cases hlt : i < m
    rotate_left
    · obtain rfl : i = m := by omega
      have HO := Lib.hid (hL.out.own _ List.mem_cons_self)
      obtain ⟨Ao, co, ho⟩ := own_form HO.out
      have E := Lib.hid (LengTo.all (by rw [HM.out]; exact hT.out))
      simp only at ho
      subst ho
      rw [hoi] at HO ⊢
      by_cases h8 : i ≤ 8
      · have E2 := Lib.hid (E.out.trans (if_pos (by omega)))
        have hd : decide ((i : Int) ≤ 8) = true := decide_eq_true (by omega)
        go_wp2
        refine bodyPost_ret (v := .tuple #[.slice Ao i co, .bool true]) (by simp [results, Try.results57, go_sem]) rfl ⟨.slice Ao i co, by rw [E2.out]; rfl, fun t ht => ?_, hL.out.low⟩
        rw [E2.out] at ht
        injection ht with ht
        subst ht
        exact HO.out
      · have E2 := Lib.hid (E.out.trans (if_neg (by omega)))
        have hd : decide ((i : Int) ≤ 8) = false := decide_eq_false (by omega)
        go_wp2
        refine bodyPost_ret (v := .tuple #[.slice Ao i co, .bool false]) (by simp [results, Try.results57, go_sem]) rfl ⟨.slice Ao i co, by rw [E2.out]; rfl, fun t ht => ?_, hL.out.low⟩
        rw [E2.out] at ht
        cases ht
    have hcap := HCAP.out (by rw [HM.out]; omega)
    rw [HM.out] at hcap
    obtain ⟨n, hx⟩ : ∃ n, s[i]? = some n := ⟨_, List.getElem?_eq_getElem (by have := HM.out; omega)⟩
    have HX := Lib.hid hx
    have TK := Lib.hid (SlOf.takeP (k := i) (HS.out.below hL.out.low) (by have := HM.out; omega))
    rcases HS.out.2 with ⟨he, _⟩ | ⟨gl, ol, cl', e, lpos, lcap, lc⟩
    · rw [he] at hx; simp at hx
    injection e with ea e2 e3
    subst ea
    clear e2 e3 lpos lcap
    have yx := cell_onV (SlInt.cells lc i n hx) hL.out.low
    clear lc hx
    have wsub : IntKind.i64.wrap ((nf : Int) - 1) = (nf : Int) - 1 := by rw [IntKind.wrap_i64]; omega
    obtain ⟨b1, hb1⟩ : ∃ b, inB n 0 ((nf : Int) - 1) = b := ⟨_, rfl⟩
    have Hb1 := Lib.hid hb1
    obtain ⟨b2, hb2⟩ : ∃ b, (s.take i).any (· == n) = b := ⟨_, rfl⟩
    have Hb2 := Lib.hid hb2
    have CH := Lib.hid (fun (v : Value) (w : World) (h : SlInt w v (s.take i)) => by have := specHas v (s.take i) n w h; rw [hb2] at this; exact this)
    clear hb1 hb2
    go_wp2_with fail
    refine (l01In_any _ _ _ _).mono ?_
    rw [Hb1.out]
    rintro e w3 ⟨rfl, rfl⟩
    cases b1 with
    | false =>
      have E := Lib.hid (hT.out.no HX.out (.inl (by rw [HNF.out]; exact Hb1.out)))
      go_wp2
      refine bodyPost_ret (v := .tuple #[.slice none 0 0, .bool false]) (by simp [results, Try.results57, go_sem]) rfl ⟨.slice none 0 0, by rw [E.out]; rfl, fun t ht => ?_, hL.out.low⟩
      rw [E.out] at ht
      cases ht
    | true =>
    go_wp2_with fail
    refine (CH.out _ _ TK.out).mono ?_
    rintro e w3 ⟨rfl, rfl⟩
    cases b2 with
    | true =>
      have E := Lib.hid (hT.out.no HX.out (.inr Hb2.out))
      go_wp2
      refine bodyPost_ret (v := .tuple #[.slice none 0 0, .bool false]) (by simp [results, Try.results57, go_sem]) rfl ⟨.slice none 0 0, by rw [E.out]; rfl, fun t ht => ?_, hL.out.low⟩
      rw [E.out] at ht
      cases ht
    | false =>
    have hin := of_decide_eq_true (show decide (0 ≤ n ∧ n ≤ (nf : Int) - 1) = true from Hb1.out)
    obtain ⟨j, rfl⟩ : ∃ j : Nat, n = (j : Int) := ⟨n.toNat, by omega⟩
    obtain ⟨x, hx⟩ : ∃ x, fl[j]? = some x := ⟨_, List.getElem?_eq_getElem (by have := HNF.out; omega)⟩
    have HT := Lib.hid (hT.out.next HX.out (by rw [HNF.out]; exact Hb1.out) Hb2.out (x := x) (by simpa using hx))
    rcases HF.out.2 with ⟨he, _⟩ | ⟨gf, of, cf', e, fpos, fcap, fc⟩
    · rw [he] at hx; simp at hx
    injection e with ea e2 e3
    subst ea
    clear e2 e3 fpos fcap
    have yf := cell_onV (SlShip.cells fc j x hx).2.1 hL.out.low
    have L2 := Liv.build hL.out 1 [x.length] (by simp)
    have HNEW := Lib.hid (OwnInt.sl (L2.own _ List.mem_cons_self) (by simp))
    have L2 := Lib.hid L2
    clear fc hx yx
    go_wp2_with (at_builtin; refine wpList_plain rfl fun K hK => wp_of_step (ops := #[]) rfl (step_liv L2.out (L' := []) (τ := 0) (v := u6) (u := .slice (some ⟨wr.heap.size, 0, none⟩) 1 1) (l := out) (m := [x.length]) 0 rfl (.tmp 30) (.tmp 36) rfl rfl rfl (List.mem_cons_of_mem _ List.mem_cons_self) HNEW.out (by simp; omega) (fun q hq => by cases hq) ?_); intro v5 x5 hl5; refine hK _ _ ?_; have L5 := Lib.hid hl5; clear hl5)
    go_roundw
    case rel => exact ⟨i + 1, _, _, by omega, by simp [hoi], rfl, by go_num, HT, L5⟩
    case measure => simp [intOf]; omega
end Go.Proofs.Ytlddampjbmklkaa
