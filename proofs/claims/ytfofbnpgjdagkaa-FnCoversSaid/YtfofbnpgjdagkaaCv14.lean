
/- What ExactRivalDuties and Dilworth and CoversLaw rests on, part 14: contracts and mathematics. -/
import Derived.Test.YtfofbnpgjdagkaaCv13
import Derived.Test.YtfofbnpgjdagkaaCv1
import Derived.Test.YtfofbnpgjdagkaaCv12
namespace Go.Proofs.Ytfofbnpgjdagkaa
open Go.RowKit
set_option maxRecDepth 100000
theorem less_same : ∀ (s : List Nat), lessL s s = false
  | [] => rfl
  | a :: s => by unfold lessL; rw [if_pos rfl]; exact less_same s
theorem less_at : ∀ (i : Nat) (s t : List Nat) (a b : Nat), s.take i = t.take i → s[i]? = some a → t[i]? = some b → a ≠ b → lessL s t = decide (a < b) := by
  intro i
  induction i with
  | zero =>
    intro s t a b _ hs ht hne
    cases s with
    | nil => simp at hs
    | cons x s =>
      cases t with
      | nil => simp at ht
      | cons y t =>
        simp only [List.getElem?_cons_zero, Option.some.injEq] at hs ht
        subst hs ht
        unfold lessL
        rw [if_neg hne]
  | succ i ih =>
    intro s t a b h hs ht hne
    cases s with
    | nil => simp at hs
    | cons x s =>
      cases t with
      | nil => simp at ht
      | cons y t =>
        rw [List.getElem?_cons_succ] at hs ht
        rw [List.take_succ_cons, List.take_succ_cons] at h
        injection h with h1 h2
        subst h1
        unfold lessL
        rw [if_pos rfl]
        exact ih s t a b h2 hs ht hne
set_option maxHeartbeats 4000000 in
theorem specLess (va vb : Value) (s t : List Nat) (w : World) (ha : SlInt w va (castL s)) (hb : SlInt w vb (castL t)) (hl : s.length = t.length) :
    Calls Try.prog 57 #[va, vb] w fun e w' => e = .returned (.bool (lessL s t)) ∧ w = w' := by
  have HA := Lib.hid ha
  have HB := Lib.hid hb
  have hla := ha.1
  obtain ⟨A0, c0, rfl⟩ := SlOf.form ha
  obtain ⟨A1, c1, rfl⟩ := SlOf.form hb
  rw [castL_len] at hla HA HB ⊢
  rw [← hl] at HB
  rw [castL_len, ← hl]
  obtain ⟨m, hm⟩ : ∃ n, s.length = n := ⟨_, rfl⟩
  have HM := Lib.hid hm
  have HM2 := Lib.hid (hl.symm.trans hm)
  rw [hm] at hla HA HB ⊢
  clear ha hb hl hm
  go_enter Try.func57, Try.ntmps57
  go_wp2
  go_loopw [9] (fun q wr => ∃ i : Nat, i ≤ m ∧ q = .int .i64 (i : Int) ∧ Hid (s.take i = t.take i) ∧ w = wr) (fun q _ => m - (intOf q).toNat)
  case atStart => exact ⟨0, Nat.zero_le _, rfl, Lib.hid rfl, rfl⟩
  case round =>
    obtain ⟨i, hi, rfl, hP, rfl⟩ := hrel
    by_cases hlt : i < m
    rotate_left
    · obtain rfl : i = m := by omega
      have E := Lib.hid (show lessL s t = false by
        have h := hP.out
        rw [List.take_of_length_le (by rw [HM.out]; omega), List.take_of_length_le (by rw [HM2.out]; omega)] at h
        rw [h]
        exact less_same t)
      go_wp2
      go_ret
      exact ⟨ret_bool E.out.symm, rfl⟩
    obtain ⟨a, ha⟩ : ∃ x, s[i]? = some x := ⟨_, List.getElem?_eq_getElem (by have := HM.out; omega)⟩
    obtain ⟨b, hb⟩ : ∃ x, t[i]? = some x := ⟨_, List.getElem?_eq_getElem (by have := HM2.out; omega)⟩
    rcases HA.out.2 with ⟨he, _⟩ | ⟨g, o, c', e, lpos, lcap, lc⟩
    · have := castL_at ha; rw [he] at this; simp at this
    injection e with ea e2 e3
    subst ea
    clear e2 e3 lpos lcap
    rcases HB.out.2 with ⟨he, _⟩ | ⟨g1, o1, c1', e, lpos, lcap, lc1⟩
    · have := castL_at hb; rw [he] at this; simp at this
    injection e with ea e2 e3
    subst ea
    clear e2 e3 lpos lcap
    have y0 := SlInt.cells lc _ _ (castL_at ha)
    have y1 := SlInt.cells lc1 _ _ (castL_at hb)
    have HAI := Lib.hid ha
    have HBI := Lib.hid hb
    clear lc lc1 ha hb
    by_cases hab : a = b
    · subst hab
      have g1 : ((a : Int) != (a : Int)) = false := by simp
      have P2 := Lib.hid (show s.take (i + 1) = t.take (i + 1) by rw [take_snoc' s i a HAI.out, take_snoc' t i a HBI.out, hP.out])
      go_wp2
      go_roundw
      case rel => exact ⟨i + 1, by omega, by go_num, P2, by first | rfl | trivial⟩
      case measure => simp [intOf]; omega
    · have g1 : ((a : Int) != (b : Int)) = true := by simp; omega
      have E := Lib.hid (less_at i s t a b hP.out HAI.out HBI.out hab)
      obtain ⟨r, hr⟩ : ∃ x, decide (a < b) = x := ⟨_, rfl⟩
      have hri : decide ((a : Int) < (b : Int)) = r := by rw [← hr]; exact decide_eq_decide.2 (by omega)
      have ER := Lib.hid (E.out.trans hr)
      clear hab
      go_wp2
      go_ret
      exact ⟨ret_bool ER.out.symm, rfl⟩
theorem rivalsB_snoc (B : Nat → Nat → Bool) (s : List Nat) (x : Nat) : rivalsB B (s ++ [x]) = (rivalsB B s && s.all (fun a => !B x a)) := by
  induction s with
  | nil => rfl
  | cons a s ih =>
    show ((s ++ [x]).all (fun b => !B b a) && rivalsB B (s ++ [x])) = ((s.all (fun b => !B b a) && rivalsB B s) && (!B x a && s.all (fun a => !B x a)))
    rw [ih, List.all_append]
    simp only [List.all_cons, List.all_nil, Bool.and_true]
    cases s.all (fun b => !B b a) <;> cases !B x a <;> cases rivalsB B s <;> simp
def RivTo (B : Nat → Nat → Bool) (s : List Nat) (i : Nat) : Prop := rivalsB B (s.take i) = true
def RowTo (B : Nat → Nat → Bool) (s : List Nat) (x j : Nat) : Prop := (s.take j).all (fun a => !B x a) = true
theorem RivTo.next {B : Nat → Nat → Bool} {s : List Nat} {i x : Nat} (h : RivTo B s i) (hx : s[i]? = some x) (hr : RowTo B s x i) : RivTo B s (i + 1) := by
  unfold RivTo at h ⊢
  rw [take_snoc' s i x hx, rivalsB_snoc, h]
  exact hr
theorem RowTo.next {B : Nat → Nat → Bool} {s : List Nat} {x j a : Nat} (h : RowTo B s x j) (ha : s[j]? = some a) (hb : B x a = false) : RowTo B s x (j + 1) := by
  unfold RowTo at h ⊢
  rw [take_snoc' s j a ha, List.all_append, h]
  simp [hb]
theorem rivals_no {B : Nat → Nat → Bool} {s : List Nat} {i j x a : Nat} (hx : s[i]? = some x) (ha : s[j]? = some a) (hj : j < i) (hb : B x a = true) : rivalsB B s = false := by
  have e : s = s.take (i + 1) ++ s.drop (i + 1) := (List.take_append_drop (i + 1) s).symm
  cases h : rivalsB B s with
  | false => rfl
  | true =>
    have hp := rivals_pair.1 h
    have hij := List.pairwise_iff_getElem.1 hp j i (List.getElem?_eq_some_iff.1 ha).1 (List.getElem?_eq_some_iff.1 hx).1 hj
    rw [(List.getElem?_eq_some_iff.1 ha).2, (List.getElem?_eq_some_iff.1 hx).2, hb] at hij
    cases hij
set_option maxHeartbeats 8000000 in
theorem specRivals (p : Int) (mv : List Int) (l : List DutyD) (vb : Value) (rs : List BRow) (hrs : rs.map BRow.l = bothM p mv l) (vs : Value) (s : List Nat) (w : World) (hrb : SlRows w vb rs) (hs : SlInt w vs (castL s)) (hlt : ∀ x ∈ s, x < l.length) :
    Calls Try.prog 58 #[vb, vs] w fun e w' => e = .returned (.bool (rivalsB (bothAt p mv l) s)) ∧ w = w' := by
  have HRB := Lib.hid hrb
  have HS := Lib.hid hs
  have HLT := Lib.hid hlt
  have hls := hs.1
  obtain ⟨hrl, hrat⟩ := bothM_at hrs
  have HRAT := Lib.hid hrat
  obtain ⟨A3, c3, rfl⟩ := hrb.form
  obtain ⟨A1, c1, rfl⟩ := SlOf.form hs
  have hcap : 0 < s.length → s.length ≤ c1 := fun h0 => by
    rcases hs.2 with ⟨he, _⟩ | ⟨g, o, c, e, _, hc, _⟩
    · have := congrArg List.length he; rw [castL_len, List.length_nil] at this; omega
    · injection e with _ _ e3; rw [castL_len] at hc; omega
  have HCAP := Lib.hid hcap
  rw [castL_len] at hls HS ⊢
  obtain ⟨m, hm⟩ : ∃ n, s.length = n := ⟨_, rfl⟩
  have HM := Lib.hid hm
  obtain ⟨nr, hnr⟩ : ∃ n, l.length = n := ⟨_, rfl⟩
  have HN := Lib.hid hnr
  rw [hrl, hnr] at HRB
  rw [hrl, hnr]
  rw [hm] at hls HS HCAP ⊢
  clear hrb hs hlt hrl hrat hm hnr hcap
  go_enter Try.func58, Try.ntmps58
  go_wp2
  go_loopw [11] (fun q wr => ∃ i : Nat, i ≤ m ∧ q = .int .i64 (i : Int) ∧ Hid (RivTo (bothAt p mv l) s i) ∧ w = wr) (fun q _ => m - (intOf q).toNat)
  case atStart => exact ⟨0, Nat.zero_le _, rfl, Lib.hid rfl, rfl⟩
  case round =>
    obtain ⟨i, hi, rfl, hT, rfl⟩ := hrel
    by_cases hlt : i < m
    rotate_left
    · obtain rfl : i = m := by omega
      have E := Lib.hid (show rivalsB (bothAt p mv l) s = true by have h := hT.out; unfold RivTo at h; rwa [List.take_of_length_le (by rw [HM.out]; omega)] at h)
      go_wp2
      go_ret
      exact ⟨ret_bool E.out.symm, rfl⟩
    obtain ⟨x, hx⟩ : ∃ x, s[i]? = some x := ⟨_, List.getElem?_eq_getElem (by have := HM.out; omega)⟩
    have HX := Lib.hid hx
    have hxl : x < nr := by have := HLT.out x (List.mem_of_getElem? hx); have := HN.out; omega
    obtain ⟨r, hr, hrlen, hrx⟩ := HRAT.out x (by rw [HN.out]; exact hxl)
    rw [HN.out] at hrlen hrx
    have HRX := Lib.hid hrx
    have hsb := HRB.out.2 r (List.mem_of_getElem? hr)
    obtain ⟨A4, c4, hv4⟩ := SlOf.form hsb
    rw [hrlen] at hv4
    rcases HS.out.2 with ⟨he, _⟩ | ⟨g, o, c', e, lpos, lcap, lc⟩
    · have := castL_at hx; rw [he] at this; simp at this
    injection e with ea e2 e3
    subst ea
    clear e2 e3 lpos lcap
    rcases HRB.out.1.2 with ⟨he, _⟩ | ⟨gb, ob, cb', e, bpos, bcap, bc⟩
    · rw [he] at hr; simp at hr
    injection e with ea e2 e3
    subst ea
    clear e2 e3 bpos bcap
    have hrv := browAt bc hr
    rw [hv4] at hrv hsb
    rcases hsb.2 with ⟨he, _⟩ | ⟨gr, or, cr', e, rpos, rcap, rc⟩
    · rw [he] at hrlen; simp at hrlen; omega
    injection e with ea e2 e3
    subst ea
    have HRC := Lib.hid (fun (j : Nat) (hj : j < nr) => boolAt rc (HRX.out j hj))
    have HLC := Lib.hid lc
    have y0 := SlInt.cells lc _ _ (castL_at hx)
    have HRV := Lib.hid hrv
    have hcap := HCAP.out (by omega)
    have hkc : (0 : Int) ≤ (i : Int) ∧ (i : Int) ≤ (c1 : Int) := by omega
    clear e2 e3 rpos rcap rc hsb hr hrlen hrx hv4 bc hx lc hrv
    go_wp2
    go_loopw [20] (fun q wx => ∃ j : Nat, j ≤ i ∧ q = .int .i64 (j : Int) ∧ Hid (RowTo (bothAt p mv l) s x j) ∧ w = wx) (fun q _ => i - (intOf q).toNat)
    case atStart => exact ⟨0, Nat.zero_le _, rfl, Lib.hid rfl, rfl⟩
    case round =>
      obtain ⟨j, hj, rfl, hR, rfl⟩ := hrel
      by_cases hji : j < i
      rotate_left
      · obtain rfl : j = i := by omega
        have T2 := Lib.hid (hT.out.next HX.out hR.out)
        go_wp2
        go_roundw
        case rel => exact ⟨j + 1, by omega, by go_num, T2, by first | rfl | trivial⟩
        case measure => simp [intOf]; omega
      obtain ⟨a, ha⟩ : ∃ x, s[j]? = some x := ⟨_, List.getElem?_eq_getElem (by have := HM.out; omega)⟩
      have HA := Lib.hid ha
      have hal : a < nr := by have := HLT.out a (List.mem_of_getElem? ha); have := HN.out; omega
      have y1 := SlInt.cells HLC.out _ _ (castL_at ha)
      have x0 := HRV.out
      have x1 := HRC.out a hal
      obtain ⟨b, hbb⟩ : ∃ b, bothAt p mv l x a = b := ⟨_, rfl⟩
      have HBB := Lib.hid hbb
      rw [hbb] at x1
      clear ha hbb
      cases b with
      | true =>
        have E := Lib.hid (rivals_no HX.out HA.out hji HBB.out)
        go_wp2
        go_ret
        exact ⟨ret_bool E.out.symm, rfl⟩
      | false =>
        have R2 := Lib.hid (hR.out.next HA.out HBB.out)
        go_wp2
        go_roundw
        case rel => exact ⟨j + 1, by omega, by go_num, R2, by first | rfl | trivial⟩
        case measure => simp [intOf]; omega
end Go.Proofs.Ytfofbnpgjdagkaa
namespace Go.Proofs.Ytfofbnpgjdagkaa
open Go.RowKit
set_option maxRecDepth 100000
/-- The duty behind who may be given to n. -/
def takeB (B : Nat → Nat → Bool) (who : List Int) (n : Int) : Bool := (List.range who.length).all (fun k => !(who[k]? == some n) || B who.length k)
def TakeTo (B : Nat → Nat → Bool) (who : List Int) (n : Int) (k : Nat) : Prop := (List.range k).all (fun j => !(who[j]? == some n) || B who.length j) = true
theorem TakeTo.zero (B : Nat → Nat → Bool) (who : List Int) (n : Int) : TakeTo B who n 0 := rfl
theorem TakeTo.next {B : Nat → Nat → Bool} {who : List Int} {n : Int} {k : Nat} (h : TakeTo B who n k) (h1 : (!(who[k]? == some n) || B who.length k) = true) : TakeTo B who n (k + 1) := by
  unfold TakeTo at h ⊢
  rw [List.range_succ, List.all_append, h]
  simpa using h1
theorem takeB_no {B : Nat → Nat → Bool} {who : List Int} {n : Int} {k : Nat} (hk : k < who.length) (h1 : (!(who[k]? == some n) || B who.length k) = false) : takeB B who n = false := by
  unfold takeB
  rw [List.all_eq_false.2 ⟨k, List.mem_range.2 hk, by rw [h1]; simp⟩]
theorem pCover_take (p : Int) (mv : List Int) (l : List DutyD) (done : List Int) (n : Int) : pCover p mv l done n = (inB n 0 ((l.length : Int) - 1) && takeB (bothAt p mv l) done n) := rfl
set_option maxHeartbeats 8000000 in
theorem canTake_any {B : Nat → Nat → Bool} (hB : ∀ i j, B i j = B j i) (b m : Nat) (yw : Value) (who : List Int) (n : Int) (w : World) (hp : PairAt w b m B) (rw' : SlInt w yw who) (hlen : who.length < m) :
    Calls Try.prog 49 #[.map (some b), yw, .int .i64 n] w fun e w' => e = .returned (.bool (takeB B who n)) ∧ w = w' := by
  have RW := Lib.hid rw'
  have HP := Lib.hid hp
  have HBS := Lib.hid hB
  have hm12 := hp.1
  obtain ⟨A2, c2, rfl⟩ := SlOf.form rw'
  obtain ⟨q, hq⟩ : ∃ n, who.length = n := ⟨_, rfl⟩
  have HQ := Lib.hid hq
  rw [hq] at RW hlen
  rw [hq]
  clear rw' hp hq hB
  go_enter Try.func49, Try.ntmps49
  go_wp2
  go_loopw [11] (fun t wr => ∃ i : Nat, i ≤ q ∧ t = .int .i64 (i : Int) ∧ Hid (TakeTo B who n i) ∧ Hid (w = wr)) (fun t _ => q - (intOf t).toNat)
  case atStart => exact ⟨0, Nat.zero_le _, rfl, Lib.hid (TakeTo.zero _ _ _), Lib.hid rfl⟩
  case round =>
    obtain ⟨i, hi, rfl, hT, hw⟩ := hrel
    obtain rfl := hw.out
    by_cases hlt : i < q
    rotate_left
    · obtain rfl : i = q := by omega
      have E := Lib.hid (show takeB B who n = true from by have := hT.out; unfold TakeTo at this; unfold takeB; rw [HQ.out]; rw [HQ.out] at this; exact this)
      go_wp2
      go_ret
      exact ⟨ret_bool E.out.symm, rfl⟩
    obtain ⟨x, hx⟩ : ∃ x, who[i]? = some x := ⟨_, List.getElem?_eq_getElem (by have := HQ.out; omega)⟩
    have HX := Lib.hid hx
    rcases RW.out.2 with ⟨he, _⟩ | ⟨g, o, c', e, lpos, lcap, lc⟩
    · rw [he] at hx; simp at hx
    injection e with ea e2 e3
    subst ea
    clear e2 e3 lpos lcap
    have y0 := SlInt.cells lc i x hx
    clear lc hx
    by_cases hxn : x = n
    · subst hxn
      have gx : (x == x) = true := beq_self_eq_true x
      have HLK := HP.out.look hlt hlen
      obtain ⟨c, hc⟩ : ∃ c, B i q = c := ⟨_, rfl⟩
      have HC := Lib.hid hc
      rw [hc] at HLK
      clear hc
      cases c with
      | true =>
        have TN := Lib.hid (hT.out.next (show (!(who[i]? == some x) || B who.length i) = true by rw [HQ.out, HBS.out, HC.out, Bool.or_true]))
        go_wp2
        go_roundw
        case rel => exact ⟨i + 1, by omega, by go_num, TN, by first | exact Lib.hid rfl | exact Lib.hid trivial⟩
        case measure => simp [intOf]; omega
      | false =>
        have E := Lib.hid (takeB_no (B := B) (who := who) (n := x) (k := i) (by rw [HQ.out]; exact hlt) (by rw [HQ.out, HBS.out, HC.out, HX.out]; simp))
        go_wp2
        go_ret
        exact ⟨ret_bool E.out.symm, rfl⟩
    · have gx : (x == n) = false := by simpa using hxn
      have TN := Lib.hid (hT.out.next (show (!(who[i]? == some n) || B who.length i) = true by rw [HX.out, some_ne gx]; rfl))
      clear hxn
      go_wp2
      go_roundw
      case rel => exact ⟨i + 1, by omega, by go_num, TN, by first | exact Lib.hid rfl | exact Lib.hid trivial⟩
      case measure => simp [intOf]; omega
set_option maxHeartbeats 16000000 in
theorem implIsCover (p : Int) (ymv : Value) (mv : List Int) (yl : Value) (l : List DutyD) (yw : Value) (who : List Int) (w : World) (rmv : SlInt w ymv mv) (rl : SlDuty w yl l) (rw' : SlInt w yw who) :
    Calls Try.prog 16 #[.int .i64 p, ymv, yl, yw] w fun e w' => e = .returned (.bool (isCovB p mv l who)) ∧ Below w.heap.size w w' := by
  have Rmv := Lib.hid rmv
  have HS := Lib.hid rl
  have RW := Lib.hid rw'
  have hlw := rw'.1
  have hll := rl.1
  obtain ⟨A0, c0, rfl⟩ := SlOf.form rmv
  obtain ⟨A1, c1, rfl⟩ := SlOf.form rl
  obtain ⟨A2, c2, rfl⟩ := SlOf.form rw'
  obtain ⟨nm, hnm⟩ : ∃ n, mv.length = n := ⟨_, rfl⟩
  obtain ⟨m, hm⟩ : ∃ n, l.length = n := ⟨_, rfl⟩
  have HM := Lib.hid hm
  obtain ⟨q, hq⟩ : ∃ n, who.length = n := ⟨_, rfl⟩
  have HQ := Lib.hid hq
  rw [hnm] at Rmv
  rw [hm] at hll HS
  rw [hq] at hlw RW
  rw [hnm, hm, hq]
  clear rmv rl rw' hnm hm hq
  obtain ⟨b1, hb1⟩ : ∃ b, dutiesB l = b := ⟨_, rfl⟩
  have H1 := Lib.hid hb1
  clear hb1
  have E0 := Lib.hid (show isCovB p mv l who = (b1 && (q == m) && runB (pCover p mv l) [] who) by unfold isCovB; rw [H1.out, HM.out, HQ.out])
  go_enter Try.func16, Try.ntmps16
  go_wp2_with fail
  refine (implDutiesOk _ l _ HS.out).mono ?_
  rw [H1.out]
  rintro e w1 ⟨rfl, hb1⟩
  have B1 := Lib.hid hb1
  clear hb1
  cases b1 with
  | false =>
    have E := Lib.hid (E0.out.trans (show _ = false by simp))
    go_wp2
    go_ret
    exact ⟨ret_bool E.out.symm, B1.out⟩
  | true =>
  have h12 : m ≤ 12 := by have := (dutiesB_all H1.out).1; have := HM.out; omega
  by_cases hqm : q = m
  rotate_left
  · have gq : ((q : Int) != (m : Int)) = true := by simp; omega
    have E := Lib.hid (E0.out.trans (show _ = false by rw [show (q == m) = false by simpa using hqm]; simp))
    go_wp2
    go_ret
    exact ⟨ret_bool E.out.symm, B1.out⟩
  subst hqm
  have E1 := Lib.hid (E0.out.trans (show _ = runB (pCover p mv l) [] who by simp))
  have gq : ((q : Int) != (q : Int)) = false := by simp
  go_wp2_with fail
  refine (implPairs p _ mv _ l _ (Rmv.out.below B1.out) (HS.out.below B1.out) (by rw [HM.out]; exact h12)).mono ?_
  rintro e w2 ⟨bp, rfl, hbp, hpa, hb2⟩
  rw [HM.out] at hpa
  have B2 := Lib.hid (B1.out.trans (hb2.mono B1.out.size))
  have PA := Lib.hid hpa
  clear hpa hb2 hbp
  go_wp2
  go_loopw [28] (fun t wr => ∃ i : Nat, i ≤ q ∧ t = .int .i64 (i : Int) ∧ Hid (RunTo (pCover p mv l) who i) ∧ Hid (w2 = wr)) (fun t _ => q - (intOf t).toNat)
  case atStart => exact ⟨0, Nat.zero_le _, rfl, Lib.hid (RunTo.zero _ _), Lib.hid rfl⟩
  case round =>
    obtain ⟨i, hi, rfl, hT, hw⟩ := hrel
    obtain rfl := hw.out
    by_cases hlt : i < q
    rotate_left
    · obtain rfl : i = q := by omega
      have E := Lib.hid (E1.out.trans (RunTo.all (by rw [HQ.out]; exact hT.out)))
      go_wp2
      go_ret
      exact ⟨ret_bool E.out.symm, B2.out⟩
    obtain ⟨n, hn⟩ : ∃ x, who[i]? = some x := ⟨_, List.getElem?_eq_getElem (by have := HQ.out; omega)⟩
    have HX := Lib.hid hn
    have HTL := Lib.hid (show (who.take i).length = i by rw [List.length_take, HQ.out]; omega)
    have TK := Lib.hid (SlOf.takeP (k := i) (by rw [HQ.out]; exact RW.out.below B2.out) (by rw [HQ.out]; omega))
    rcases RW.out.2 with ⟨he, _⟩ | ⟨g, o, c', e, lpos, lcap, lc⟩
    · rw [he] at hn; simp at hn
    injection e with ea e2 e3
    subst ea e3
    have hic : i ≤ c2 := by have := HQ.out; omega
    clear e2 lpos lcap
    have y0 := cell_onV (SlInt.cells lc _ _ hn) B2.out
    obtain ⟨c, hc⟩ : ∃ b, inB n 0 ((q : Int) - 1) = b := ⟨_, rfl⟩
    have HC := Lib.hid hc
    clear hc hn lc
    go_wp2_with fail
    refine (isIndex_any _ _ _).mono ?_
    rw [HC.out]
    rintro e w3 ⟨rfl, rfl⟩
    clear y0
    cases c with
    | false =>
      have E := Lib.hid (E1.out.trans (run_no HX.out (by rw [pCover_take, HM.out, HC.out]; rfl)))
      go_wp2
      go_ret
      exact ⟨ret_bool E.out.symm, B2.out⟩
    | true =>
    obtain ⟨c, hc⟩ : ∃ b, takeB (bothAt p mv l) (who.take i) n = b := ⟨_, rfl⟩
    have HK := Lib.hid hc
    clear hc
    go_wp2_with fail
    refine (canTake_any (bothAt_comm p mv l) bp q _ (who.take i) n _ PA.out TK.out (by rw [HTL.out]; exact hlt)).mono ?_
    rw [HK.out]
    rintro e w3 ⟨rfl, rfl⟩
    cases c with
    | false =>
      have E := Lib.hid (E1.out.trans (run_no HX.out (by rw [pCover_take, HK.out, Bool.and_false])))
      go_wp2
      go_ret
      exact ⟨ret_bool E.out.symm, B2.out⟩
    | true =>
      have TN := Lib.hid (hT.out.next HX.out (by rw [pCover_take, HM.out, HC.out, HK.out]; rfl))
      go_wp2
      go_roundw
      case rel => exact ⟨i + 1, by omega, by go_num, TN, by first | exact Lib.hid rfl | exact Lib.hid trivial⟩
      case measure => simp [intOf]; omega
end Go.Proofs.Ytfofbnpgjdagkaa
