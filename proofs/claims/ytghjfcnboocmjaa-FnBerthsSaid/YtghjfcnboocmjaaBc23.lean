
/- What ExactFreeTimes and BerthsLaw rests on, part 23: contracts and mathematics. -/
import Derived.Test.YtghjfcnboocmjaaBcTk
import Derived.Test.YtghjfcnboocmjaaBc21
import Derived.Test.YtghjfcnboocmjaaBc22
import Derived.Deep.Upon
import Derived.Lib.SliceRun
namespace Go.Proofs.Ytghjfcnboocmjaa
open Go.RowKit
set_option maxRecDepth 100000
set_option maxHeartbeats 2000000 in
theorem cloneStays (v : Value) (l : List StayD) (w : World) (h : SlStay w v l) (hn : l.length ≤ 9000000) :
    Calls Try.prog 51 #[v] w (NewStay l w) := by
  have q26 : ∀ (w : World) (a : Option Addr) (n c n' c' : Nat), (binOp .eql 25 (.slice a n c) (.slice none n' c')).run Try.prog w = .ok (.bool a.isNone) w := fun w a n c n' c' => Lib.run_eql_slice_nil w _ _ a n c n' c' Try.underlying25
  have L1 : LivS w (w.alloc (.cells #[] 33)) [(0, .slice (some ⟨w.heap.size, 0, none⟩) 0 0, [])] := LivO.build (LivO.nil w) stayLen 0 [] (by simp)
  have RS := Lib.hid (h.below L1.low)
  have L1 := Lib.hid L1
  have HS := Lib.hid h
  obtain ⟨A, c, rfl⟩ := h.at
  clear h
  cases A with
  | none =>
    have e : l = [] := by
      rcases HS.out.2 with ⟨he, _⟩ | ⟨g, o, c', e, _, _, _⟩
      · exact he
      · injection e with e1; cases e1
    have E := Lib.hid e
    clear e RS L1
    go_enter Try.func51, Try.ntmps51
    go_wp2
    go_ret
    exact ⟨_, rfl, by rw [E.out]; exact World.ownsRow_nil _ _ _ _, Below.refl _ _⟩
  | some a =>
    obtain ⟨m, hm⟩ : ∃ m, l.length = m := ⟨_, rfl⟩
    rw [hm] at RS hn
    try rw [hm]
    have HM := Lib.hid hm
    clear hm
    go_enter Try.func51, Try.ntmps51
    go_wp2_with (at_builtin; refine wpList_plain rfl fun K hK => wp_of_stepO (ops := #[]) rfl (step_livS L1.out (L' := []) (τ := 0) (v := .slice (some ⟨w.heap.size, 0, none⟩) 0 0) (u := .slice (some a) m c) (l := []) (m := l) 0 rfl (.tmp 5) (.tmp 6) rfl rfl rfl List.mem_cons_self RS.out (by rw [HM.out]; simp; omega) (fun q hq => by cases hq) ?_); intro v5 x5 hl5; refine hK _ _ ?_; have L5 := Lib.hid hl5; clear hl5)
    have HO := Lib.hid (L5.out.own _ List.mem_cons_self)
    have HL := Lib.hid L5.out.low
    clear L5
    go_ret
    exact ⟨_, rfl, HO.out, HL.out⟩
theorem flat_setAt {α : Type} {k : Nat} {cs : α → List Value} (hk : ∀ x, (cs x).length = k) : ∀ (l : List α) (i : Nat) (x : α), l[i]? = some x → ∀ (j : Nat) (u : Value) (x' : α), j < k → cs x' = (cs x).set j u → (l.flatMap cs).set (i * k + j) u = (l.set i x').flatMap cs := by
  intro l
  induction l with
  | nil => intro i x h; simp at h
  | cons y l ih =>
    intro i x h j u x' hj hx
    cases i with
    | zero =>
      simp only [List.getElem?_cons_zero, Option.some.injEq] at h
      subst h
      rw [List.flatMap_cons, List.set_cons_zero, List.flatMap_cons, hx, Nat.zero_mul, Nat.zero_add, List.set_append_left _ _ (by rw [hk]; exact hj)]
    | succ i =>
      rw [List.getElem?_cons_succ] at h
      rw [List.flatMap_cons, List.set_cons_succ, List.flatMap_cons, List.set_append_right _ _ (by rw [hk, Nat.succ_mul]; omega), hk, show (i + 1) * k + j - k = i * k + j by rw [Nat.succ_mul]; omega, ih i x h j u x' hj hx]
theorem own_set {α : Type} {k : Nat} {cs : α → List Value} {t : TypeId} {w : World} {base g c : Nat} {l : List α} (hk : ∀ x, (cs x).length = k) (h : OwnOf k cs t w base (.slice (some ⟨g, 0, none⟩) l.length c) l) {i j : Nat} {x x' : α} {u : Value} (hx : l[i]? = some x) (hj : j < k) (e : cs x' = (cs x).set j u) :
    OwnOf k cs t (w.setCell ⟨g, i * k + j, none⟩ u) base (.slice (some ⟨g, 0, none⟩) (l.set i x').length c) (l.set i x') := by
  have hs := (World.ownsRow.stored h (i * k + j) u).1
  rw [flat_setAt hk l i x hx j u x' hj e] at hs
  unfold OwnOf
  rw [List.length_set]
  exact hs
theorem own_at {α : Type} {k : Nat} {cs : α → List Value} {t : TypeId} {w : World} {base g n c : Nat} {l : List α} (hk : ∀ x, (cs x).length = k) (h : OwnOf k cs t w base (.slice (some ⟨g, 0, none⟩) n c) l) (hn : l.length = n) {i j : Nat} {x : α} {u : Value} (hx : l[i]? = some x) (hj : (cs x)[j]? = some u) : w.cell? ⟨g, i * k + j, none⟩ = some u := by
  have hi := (List.getElem?_eq_some_iff.1 hx).1
  have hjk : j < k := by have := (List.getElem?_eq_some_iff.1 hj).1; rw [hk] at this; exact this
  subst hn
  have hlt : i * k + j < l.length * k := by
    have h1 : (i + 1) * k ≤ l.length * k := Nat.mul_le_mul_right k (by omega)
    rw [Nat.succ_mul] at h1
    omega
  exact (World.ownsRow.cellAt h (i * k + j) hlt).trans (flat_at hk l i x hx j u hj)
/-- The asks, but for the berths. -/
def SameAsk (asks cur : List StayD) : Prop := cur.length = asks.length ∧ ∀ (i : Nat) (a c : StayD), asks[i]? = some a → cur[i]? = some c → c.ship = a.ship ∧ c.fr = a.fr ∧ c.tt = a.tt
theorem SameAsk.refl (asks : List StayD) : SameAsk asks asks := ⟨rfl, fun i a c h1 h2 => by rw [h1] at h2; cases h2; exact ⟨rfl, rfl, rfl⟩⟩
theorem SameAsk.set {asks cur : List StayD} (h : SameAsk asks cur) {m : Nat} {a : StayD} (ha : asks[m]? = some a) (b : Int) : SameAsk asks (cur.set m ⟨a.ship, b, a.fr, a.tt⟩) := by
  refine ⟨by rw [List.length_set]; exact h.1, fun i a' c h1 h2 => ?_⟩
  by_cases e : m = i
  · subst e
    have hl : m < cur.length := by have := (List.getElem?_eq_some_iff.1 h1).1; have := h.1; omega
    rw [List.getElem?_set_self hl] at h2
    cases h2
    rw [ha] at h1
    cases h1
    exact ⟨rfl, rfl, rfl⟩
  · rw [List.getElem?_set_ne e] at h2
    exact h.2 i a' c h1 h2
theorem take_set {α : Type} {l : List α} {m : Nat} {x : α} (h : m < l.length) : (l.set m x).take (m + 1) = l.take m ++ [x] := by
  rw [take_snoc' _ m x (List.getElem?_set_self h), List.take_set_of_le (Nat.le_refl m)]
/-- The list in memory: what is settled, then the asks with any berths. -/
def AllotS (asks : List StayD) (wd : World) (v : Value) (nx : List StayD) (w : World) : Prop := ∃ cu, OwnStay w wd.heap.size v cu ∧ Below wd.heap.size wd w ∧ SameAsk asks cu ∧ cu.take nx.length = nx
theorem AllotS.later {asks : List StayD} {wd : World} {v : Value} {nx : List StayD} {w w' : World} (h : AllotS asks wd v nx w) (hb : Below w.heap.size w w') : AllotS asks wd v nx w' := by
  obtain ⟨cu, h1, h2, h3, h4⟩ := h
  exact ⟨cu, own_below h1 hb, h2.trans (hb.mono h2.size), h3, h4⟩
theorem AllotS.less {asks : List StayD} {wd : World} {v : Value} {nx : List StayD} {x : StayD} {w : World} (h : AllotS asks wd v (nx ++ [x]) w) : AllotS asks wd v nx w := by
  obtain ⟨cu, h1, h2, h3, h4⟩ := h
  refine ⟨cu, h1, h2, h3, ?_⟩
  have := congrArg (List.take nx.length) h4
  rw [List.take_take, List.length_append, Nat.min_eq_left (by omega), List.take_left'] at this
  · exact this
  · rfl
theorem AllotS.form {asks : List StayD} {wd : World} {v : Value} {nx : List StayD} {w : World} (h : AllotS asks wd v nx w) (hp : 0 < asks.length) : ∃ g c, v = .slice (some ⟨g, 0, none⟩) asks.length c ∧ wd.heap.size ≤ g := by
  obtain ⟨cu, h1, _, h3, _⟩ := h
  rcases h1.2 with ⟨_, e⟩ | ⟨g, cap, cur, e, hg, _⟩
  · have := h3.1; omega
  · exact ⟨g, cap, by rw [e, h3.1], hg⟩
theorem AllotS.at {asks : List StayD} {wd : World} {g n c : Nat} {nx : List StayD} {w : World} (h : AllotS asks wd (.slice (some ⟨g, 0, none⟩) n c) nx w) (hn : asks.length = n) {m : Nat} {x : StayD} (hx : nx[m]? = some x) :
    w.cell? ⟨g, m * 4, none⟩ = some (.int .i64 x.ship) ∧ w.cell? ⟨g, m * 4 + 1, none⟩ = some (.int .i64 x.berth) ∧ w.cell? ⟨g, m * 4 + 2, none⟩ = some (.int .i64 x.fr) ∧ w.cell? ⟨g, m * 4 + 3, none⟩ = some (.int .i64 x.tt) := by
  obtain ⟨cu, h1, _, h3, h4⟩ := h
  have hm := (List.getElem?_eq_some_iff.1 hx).1
  have hc : cu[m]? = some x := by rw [← h4, List.getElem?_take_of_lt hm] at hx; exact hx
  have hl : cu.length = n := h3.1.trans hn
  exact ⟨own_at stayLen h1 hl hc (j := 0) rfl, own_at stayLen h1 hl hc (j := 1) rfl, own_at stayLen h1 hl hc (j := 2) rfl, own_at stayLen h1 hl hc (j := 3) rfl⟩
/-- What is settled, read in the same cells. -/
theorem AllotS.sl {asks : List StayD} {wd : World} {g n c : Nat} {nx : List StayD} {w : World} (h : AllotS asks wd (.slice (some ⟨g, 0, none⟩) n c) nx w) (hn : asks.length = n) (h6 : n ≤ 6) (hm : nx.length ≤ n) : SlStay w (.slice (some ⟨g, 0, none⟩) nx.length c) nx := by
  obtain ⟨cu, h1, _, h3, h4⟩ := h
  have hl : cu.length = n := h3.1.trans hn
  have hs := own_sl stayLen h1 (by omega)
  rw [← hl] at hs
  have ht := SlOf.takeP (k := nx.length) hs (by omega)
  rw [h4] at ht
  exact ht
/-- A berth is tried. -/
theorem AllotS.try {asks : List StayD} {wd : World} {g n c : Nat} {nx : List StayD} {w : World} (h : AllotS asks wd (.slice (some ⟨g, 0, none⟩) n c) nx w) (hn : asks.length = n) {a : StayD} (ha : asks[nx.length]? = some a) (hg : wd.heap.size ≤ g) (b : Int) :
    w.frozen? ⟨g, nx.length * 4 + 1, none⟩ = false ∧ (∃ z, w.cell? ⟨g, nx.length * 4 + 1, none⟩ = some (.int .i64 z)) ∧ AllotS asks wd (.slice (some ⟨g, 0, none⟩) n c) (nx ++ [⟨a.ship, b, a.fr, a.tt⟩]) (w.setCell ⟨g, nx.length * 4 + 1, none⟩ (.int .i64 b)) := by
  obtain ⟨cu, h1, h2, h3, h4⟩ := h
  have hl : cu.length = n := h3.1.trans hn
  have hm : nx.length < cu.length := by have := (List.getElem?_eq_some_iff.1 ha).1; omega
  obtain ⟨x, hx⟩ : ∃ x, cu[nx.length]? = some x := ⟨_, List.getElem?_eq_getElem hm⟩
  obtain ⟨e1, e2, e3⟩ := h3.2 _ _ _ ha hx
  refine ⟨World.ownsRow.frozenAt (by rw [← hl] at h1; exact h1) _, ⟨x.berth, own_at stayLen h1 hl hx (j := 1) rfl⟩, cu.set nx.length ⟨a.ship, b, a.fr, a.tt⟩, ?_, h2.setCell hg _, h3.set ha b, ?_⟩
  · subst hl
    have := own_set (x' := (⟨a.ship, b, a.fr, a.tt⟩ : StayD)) stayLen h1 hx (j := 1) (u := .int .i64 b) (by omega) (by rw [← e1, ← e2, ← e3]; rfl)
    rw [List.length_set] at this
    exact this
  · rw [List.length_append]
    show (cu.set nx.length _).take (nx.length + 1) = _
    rw [take_set hm, h4]
/-- What allotFrom leaves. -/
def AllotIn (R : Option (List StayD)) (asks : List StayD) (wd : World) (v : Value) (done : List StayD) (e : Ending) (w' : World) : Prop := e = .returned (.bool R.isSome) ∧ AllotS asks wd v done w' ∧ ∀ out, R = some out → AllotS asks wd v out w' ∧ out.length = asks.length
set_option maxHeartbeats 16000000 in
theorem allotFrom_any (vb : Value) (bs : List BerthD) (vf : Value) (fl : List ShipD) (asks : List StayD) (h6 : asks.length ≤ 6) (fb : ∀ x ∈ bs, BerthD.wf x) (ff : ∀ x ∈ fl, ShipD.wf x) (wd : World) (rb : SlBerth wd vb bs) (rf : SlShip wd vf fl) : ∀ (k : Nat) (v : Value) (done : List StayD) (q : Int) (w : World), AllotS asks wd v done w → q = (done.length : Int) → done.length + k = asks.length → staysB bs fl done = true →
    Calls Try.prog 52 #[vb, vf, v, .int .i64 q] w (AllotIn (allotR bs fl asks k done) asks wd v done) := by
  intro k
  induction k with
  | zero =>
    intro v done q w hs hq hlen hz
    subst hq
    have HS := Lib.hid hs
    have HZ := Lib.hid (show allotR bs fl asks 0 done = some done from if_pos hz)
    obtain ⟨A0, c0, rfl⟩ := rb.at
    obtain ⟨A1, c1, rfl⟩ := rf.at
    obtain ⟨m, hm⟩ : ∃ n, done.length = n := ⟨_, rfl⟩
    have HL := Lib.hid (show done.length = asks.length by omega)
    obtain ⟨A3, c3, hv⟩ : ∃ A c, v = .slice A m c := by
      obtain ⟨cu, h1, _, h3, _⟩ := hs
      obtain ⟨A, c, e⟩ := own_form h1
      exact ⟨A, c, by rw [e, h3.1, ← hm]; congr 1; omega⟩
    subst hv
    rw [hm]
    clear rb rf hs hz fb ff h6 hlen hm
    go_enter Try.func52, Try.ntmps52
    go_wp2
    go_ret
    exact ⟨ret_bool (by rw [HZ.out]; rfl), HS.out, fun out ho => by rw [HZ.out] at ho; cases ho; exact ⟨HS.out, HL.out⟩⟩
  | succ k ih =>
    intro v done q w hs hq hlen hz
    subst hq
    have IH := Lib.hid ih
    have HS := Lib.hid hs
    have HZ := Lib.hid hz
    have RB := Lib.hid rb
    have RF := Lib.hid rf
    have FB := Lib.hid fb
    have FF := Lib.hid ff
    have hlb := rb.1
    obtain ⟨a, ha⟩ : ∃ a, asks[done.length]? = some a := ⟨_, List.getElem?_eq_getElem (by omega)⟩
    have HA := Lib.hid ha
    have E0 := Lib.hid (allotR_succ (bs := bs) (fl := fl) (k := k) ha)
    obtain ⟨g, c3, hv, hg⟩ := hs.form (by omega)
    subst hv
    have HG := Lib.hid hg
    obtain ⟨A0, c0, rfl⟩ := rb.at
    obtain ⟨A1, c1, rfl⟩ := rf.at
    obtain ⟨m, hm⟩ : ∃ n, done.length = n := ⟨_, rfl⟩
    have HM := Lib.hid hm
    obtain ⟨n, hn⟩ : ∃ n, asks.length = n := ⟨_, rfl⟩
    have HN := Lib.hid hn
    obtain ⟨nb, hnb⟩ : ∃ n, bs.length = n := ⟨_, rfl⟩
    have HNB := Lib.hid hnb
    have hmn : m < n := by omega
    have hn6 : n ≤ 6 := by omega
    have HMN := Lib.hid (show m + (k + 1) = n by omega)
    have hcap : n ≤ c3 := by
      obtain ⟨cu, h1, _, h3, _⟩ := hs
      rcases h1.2 with ⟨e, _⟩ | ⟨_, _, _, e, _, _, hc, _⟩
      · cases e
      · injection e with _ _ e3
        have := h3.1
        omega
    rw [hnb] at hlb
    rw [hn] at HS IH
    rw [hnb] at RB IH
    rw [hm]
    try rw [hn]
    try rw [hnb]
    have dn2 : ((m : Int) == (n : Int)) = false := by simp; omega
    have wm : IntKind.i64.wrap ((m : Int) + 1) = (m : Int) + 1 := by rw [IntKind.wrap_i64]; omega
    have hkc : (0 : Int) ≤ (m : Int) ∧ (m : Int) ≤ (c3 : Int) := by omega
    clear rb rf hs fb ff hz hlen hm hn hnb ih ha h6 hg hcap
    go_enter Try.func52, Try.ntmps52
    go_wp2
    go_loopw [16] (fun t wr => ∃ (j : Nat), j ≤ nb ∧ t = .int .i64 (j : Int) ∧ Hid (((List.range nb).take j).findSome? (allotF bs fl asks k done a) = none) ∧ Hid (AllotS asks wd (.slice (some ⟨g, 0, none⟩) n c3) done wr)) (fun t _ => nb - (intOf t).toNat)
    case atStart => exact ⟨0, Nat.zero_le _, rfl, Lib.hid rfl, HS⟩
    case round =>
      obtain ⟨j, hj, rfl, hF, hK⟩ := hrel
      by_cases hlt : j < nb
      rotate_left
      · obtain rfl : j = nb := by omega
        have E := Lib.hid (E0.out.trans (show _ = none by have h := hF.out; rw [List.take_of_length_le (by simp)] at h; rw [HNB.out]; exact h))
        go_wp2
        go_ret
        exact ⟨ret_bool (by rw [E.out]; rfl), hK.out, fun out ho => by rw [E.out] at ho; cases ho⟩
      have HR := Lib.hid (show (List.range nb)[j]? = some j from List.getElem?_range hlt)
      obtain ⟨f1, ⟨z, s1⟩, hS3⟩ := hK.out.try HN.out HA.out HG.out (j : Int)
      rw [HM.out] at f1 s1 hS3
      obtain ⟨w3, hw3⟩ : ∃ W, W = wr.setCell ⟨g, m * 4 + 1, none⟩ (.int .i64 (j : Int)) := ⟨_, rfl⟩
      rw [← hw3] at hS3
      have HW3 := Lib.hid hw3
      obtain ⟨nx, hnx⟩ : ∃ x, done ++ [(⟨a.ship, (j : Int), a.fr, a.tt⟩ : StayD)] = x := ⟨_, rfl⟩
      have HNX := Lib.hid hnx
      have HNL := Lib.hid (show nx.length = m + 1 by rw [← hnx, List.length_append, HM.out]; rfl)
      rw [hnx] at hS3
      have HXM := Lib.hid (show nx[m]? = some ⟨a.ship, (j : Int), a.fr, a.tt⟩ by rw [← hnx, List.getElem?_append_right (by rw [HM.out]; omega), HM.out]; simp)
      obtain ⟨x0, x1, x2, x3⟩ := hS3.at HN.out HXM.out
      have C0 := Lib.hid x0
      have C1 := Lib.hid x1
      have C2 := Lib.hid x2
      have C3 := Lib.hid x3
      have S3 := Lib.hid hS3
      obtain ⟨t, ht⟩ : ∃ t, staysB bs fl nx = t := ⟨_, rfl⟩
      have HT := Lib.hid ht
      have HP := Lib.hid (show pStay bs fl done ⟨a.ship, (j : Int), a.fr, a.tt⟩ = t by rw [← ht, ← hnx]; exact (staysB_more HZ.out (by rw [HM.out]; omega)).symm)
      obtain ⟨R, hR⟩ : ∃ R, allotR bs fl asks k nx = R := ⟨_, rfl⟩
      have HRR := Lib.hid hR
      have EF := Lib.hid (show t = true → allotF bs fl asks k done a j = R from fun h => by unfold allotF; rw [hnx, ← hR]; exact if_pos (by rw [ht, h]))
      have EN := Lib.hid (show t = false → allotF bs fl asks k done a j = none from fun h => by unfold allotF; rw [hnx]; exact if_neg (by rw [ht, h]; simp))
      have CI := Lib.hid (fun (w : World) (h : AllotS asks wd (.slice (some ⟨g, 0, none⟩) n c3) nx w) (hh : t = true) => IH.out (.slice (some ⟨g, 0, none⟩) n c3) nx ((m : Int) + 1) w h (by rw [HNL.out]; push_cast; rfl) (by have := HNL.out; have := HMN.out; omega) (by rw [HT.out, hh]))
      rw [hR] at CI
      obtain ⟨r, hr⟩ : ∃ r, R.isSome = r := ⟨_, rfl⟩
      have HRS := Lib.hid hr
      clear hr hR ht hnx hS3 hw3 x0 x1 x2 x3
      go_upto_region 7 with fail
      rw [← HW3.out]
      clear f1 s1
      cases t with
      | false =>
        have v0 : w3.cell? ⟨g, m * 4, none⟩ = some (.int .i64 a.ship) := C0.out
        have v1 : w3.cell? ⟨g, m * 4 + 1, none⟩ = some (.int .i64 (j : Int)) := C1.out
        have v2 : w3.cell? ⟨g, m * 4 + 2, none⟩ = some (.int .i64 a.fr) := C2.out
        have v3 : w3.cell? ⟨g, m * 4 + 3, none⟩ = some (.int .i64 a.tt) := C3.out
        have DR := Lib.hid (S3.out.later (Below.refl w3.heap.size w3).drew)
        refine wp_region_held_drew (S := (fun w' => w'.cell? ⟨g, m * 4, none⟩ = some (.int .i64 a.ship) ∧ w'.cell? ⟨g, m * 4 + 1, none⟩ = some (.int .i64 (j : Int)) ∧ w'.cell? ⟨g, m * 4 + 2, none⟩ = some (.int .i64 a.fr) ∧ w'.cell? ⟨g, m * 4 + 3, none⟩ = some (.int .i64 a.tt) ∧ Hid (AllotS asks wd (.slice (some ⟨g, 0, none⟩) n c3) nx w'))) (by kernel_rfl) ?_ (fun hHeld => ?_)
        · (try dsimp only); go_keep
        refine tk 0 ?_
        refine tk 1 ?_
        refine tk 2 ?_
        refine tk 3 ?_
        refine tk 4 ?_
        refine tk 5 ?_
        refine tk 6 ?_
        refine tk 7 ?_
        refine tk 8 ?_
        refine wpAnyH_ready (rs := [9]) (by kernel_rfl) (by simp) ?_
        refine AllReadyH.cons rfl (fun K hK => ?_) AllReadyH.nil
        rw [if_pos (by rfl)]
        go_simp
        go_at_call 57
        have kS := hHeld.2.2.2.2.out
        have kD := (show AllotS asks wd (.slice (some ⟨g, 0, none⟩) n c3) (done ++ [⟨a.ship, (j : Int), a.fr, a.tt⟩]) _ by rw [HNX.out]; exact kS).less
        have kL := kD.sl HN.out hn6 (by rw [HM.out]; omega)
        rw [HM.out] at kL
        have kB : Below wd.heap.size wd _ := (show ∃ cu, _ from kD).choose_spec.2.1
        refine (canStay_any _ bs _ fl _ done ⟨a.ship, (j : Int), a.fr, a.tt⟩ _ (RB.out.below kB) (RF.out.below kB) kL FB.out FF.out).mono ?_
        rw [HP.out]
        rintro e wq9 ⟨rfl, hbk⟩
        have k9 := kS.later hbk
        obtain ⟨u0, u1, u2, u3⟩ := AllotS.at k9 HN.out HXM.out
        have QS := Lib.hid (show wq9.cell? ⟨g, m * 4, none⟩ = some (.int .i64 a.ship) ∧ wq9.cell? ⟨g, m * 4 + 1, none⟩ = some (.int .i64 (j : Int)) ∧ wq9.cell? ⟨g, m * 4 + 2, none⟩ = some (.int .i64 a.fr) ∧ wq9.cell? ⟨g, m * 4 + 3, none⟩ = some (.int .i64 a.tt) ∧ Hid (AllotS asks wd (.slice (some ⟨g, 0, none⟩) n c3) nx wq9) from ⟨u0, u1, u2, u3, Lib.hid k9⟩)
        clear u0 u1 u2 u3
        clear hbk kS kD kL kB hHeld k9
        go_simp
        refine hK.out _ _ ?_ (fun hHeld => ?_)
        · (try dsimp only); exact QS.out
        clear hK K
        try simp only [Act.put, List.setIfInBounds_toArray, List.set_cons_zero, List.set_cons_succ]
        refine tk 10 ?_
        refine tku 11 ?_
        refine tku 12 ?_
        refine tku 13 ?_
        refine tku 14 ?_
        refine tku 15 ?_
        refine tku 16 ?_
        refine tk 17 ?_
        refine wpAnyH_done (by kernel_rfl) ?_ _
        have K9 := Lib.hid hHeld.2.2.2.2.out
        have KD := Lib.hid (show AllotS asks wd (.slice (some ⟨g, 0, none⟩) n c3) (done ++ [⟨a.ship, (j : Int), a.fr, a.tt⟩]) _ by rw [HNX.out]; exact K9.out).less
        have F2 := Lib.hid (some_next hF.out HR.out (EN.out rfl))
        clear hHeld
        go_wp2
        go_roundw
        case rel => exact ⟨j + 1, by omega, by go_num, F2, KD⟩
        case measure => simp [intOf]; omega
      | true =>
        have v0 : w3.cell? ⟨g, m * 4, none⟩ = some (.int .i64 a.ship) := C0.out
        have v1 : w3.cell? ⟨g, m * 4 + 1, none⟩ = some (.int .i64 (j : Int)) := C1.out
        have v2 : w3.cell? ⟨g, m * 4 + 2, none⟩ = some (.int .i64 a.fr) := C2.out
        have v3 : w3.cell? ⟨g, m * 4 + 3, none⟩ = some (.int .i64 a.tt) := C3.out
        have DR := Lib.hid (S3.out.later (Below.refl w3.heap.size w3).drew)
        refine wp_region_held_drew (S := (fun w' => w'.cell? ⟨g, m * 4, none⟩ = some (.int .i64 a.ship) ∧ w'.cell? ⟨g, m * 4 + 1, none⟩ = some (.int .i64 (j : Int)) ∧ w'.cell? ⟨g, m * 4 + 2, none⟩ = some (.int .i64 a.fr) ∧ w'.cell? ⟨g, m * 4 + 3, none⟩ = some (.int .i64 a.tt) ∧ Hid (AllotS asks wd (.slice (some ⟨g, 0, none⟩) n c3) nx w'))) (by kernel_rfl) ?_ (fun hHeld => ?_)
        · (try dsimp only); go_keep
        refine tk 0 ?_
        refine tk 1 ?_
        refine tk 2 ?_
        refine tk 3 ?_
        refine tk 4 ?_
        refine tk 5 ?_
        refine tk 6 ?_
        refine tk 7 ?_
        refine tk 8 ?_
        refine wpAnyH_ready (rs := [9]) (by kernel_rfl) (by simp) ?_
        refine AllReadyH.cons rfl (fun K hK => ?_) AllReadyH.nil
        rw [if_pos (by rfl)]
        go_simp
        go_at_call 57
        have kS := hHeld.2.2.2.2.out
        have kD := (show AllotS asks wd (.slice (some ⟨g, 0, none⟩) n c3) (done ++ [⟨a.ship, (j : Int), a.fr, a.tt⟩]) _ by rw [HNX.out]; exact kS).less
        have kL := kD.sl HN.out hn6 (by rw [HM.out]; omega)
        rw [HM.out] at kL
        have kB : Below wd.heap.size wd _ := (show ∃ cu, _ from kD).choose_spec.2.1
        refine (canStay_any _ bs _ fl _ done ⟨a.ship, (j : Int), a.fr, a.tt⟩ _ (RB.out.below kB) (RF.out.below kB) kL FB.out FF.out).mono ?_
        rw [HP.out]
        rintro e wq9 ⟨rfl, hbk⟩
        have k9 := kS.later hbk
        obtain ⟨u0, u1, u2, u3⟩ := AllotS.at k9 HN.out HXM.out
        have QS := Lib.hid (show wq9.cell? ⟨g, m * 4, none⟩ = some (.int .i64 a.ship) ∧ wq9.cell? ⟨g, m * 4 + 1, none⟩ = some (.int .i64 (j : Int)) ∧ wq9.cell? ⟨g, m * 4 + 2, none⟩ = some (.int .i64 a.fr) ∧ wq9.cell? ⟨g, m * 4 + 3, none⟩ = some (.int .i64 a.tt) ∧ Hid (AllotS asks wd (.slice (some ⟨g, 0, none⟩) n c3) nx wq9) from ⟨u0, u1, u2, u3, Lib.hid k9⟩)
        clear u0 u1 u2 u3
        clear hbk kS kD kL kB hHeld k9
        go_simp
        refine hK.out _ _ ?_ (fun hHeld => ?_)
        · (try dsimp only); exact QS.out
        clear hK K
        try simp only [Act.put, List.setIfInBounds_toArray, List.set_cons_zero, List.set_cons_succ]
        refine tk 10 ?_
        refine tk 11 ?_
        refine tk 12 ?_
        refine tk 13 ?_
        refine tk 14 ?_
        refine tk 15 ?_
        refine wpAnyH_ready (rs := [16]) (by kernel_rfl) (by simp) ?_
        refine AllReadyH.cons rfl (fun K hK => ?_) AllReadyH.nil
        rw [if_pos (by rfl)]
        go_simp
        go_at_call 52
        have kS := hHeld.2.2.2.2.out
        refine (CI.out _ kS rfl).mono ?_
        rintro e wq16 ⟨rfl, k16, kO⟩
        rw [HRS.out]
        have KO := Lib.hid kO
        obtain ⟨u0, u1, u2, u3⟩ := AllotS.at k16 HN.out HXM.out
        have QS := Lib.hid (show wq16.cell? ⟨g, m * 4, none⟩ = some (.int .i64 a.ship) ∧ wq16.cell? ⟨g, m * 4 + 1, none⟩ = some (.int .i64 (j : Int)) ∧ wq16.cell? ⟨g, m * 4 + 2, none⟩ = some (.int .i64 a.fr) ∧ wq16.cell? ⟨g, m * 4 + 3, none⟩ = some (.int .i64 a.tt) ∧ Hid (AllotS asks wd (.slice (some ⟨g, 0, none⟩) n c3) nx wq16) from ⟨u0, u1, u2, u3, Lib.hid k16⟩)
        clear u0 u1 u2 u3
        have K16 := Lib.hid k16
        clear kS hHeld k16 kO
        go_simp
        refine hK.out _ _ ?_ (fun hHeld => ?_)
        · (try dsimp only); exact QS.out
        clear hK K
        try simp only [Act.put, List.setIfInBounds_toArray, List.set_cons_zero, List.set_cons_succ]
        refine tk 17 ?_
        refine wpAnyH_done (by kernel_rfl) ?_ _
        have KD := Lib.hid (show AllotS asks wd (.slice (some ⟨g, 0, none⟩) n c3) (done ++ [⟨a.ship, (j : Int), a.fr, a.tt⟩]) _ by rw [HNX.out]; exact K16.out).less
        clear hHeld
        cases r with
        | false =>
          have F2 := Lib.hid (some_next hF.out HR.out ((EF.out rfl).trans (by have := HRS.out; simpa using this)))
          go_wp2
          go_roundw
          case rel => exact ⟨j + 1, by omega, by go_num, F2, KD⟩
          case measure => simp [intOf]; omega
        | true =>
          obtain ⟨out, hout⟩ := Option.isSome_iff_exists.1 HRS.out
          have E := Lib.hid (show allotR bs fl asks (k + 1) done = some out from E0.out.trans (by rw [HNB.out]; exact some_at hF.out HR.out ((EF.out rfl).trans hout)))
          have KF := Lib.hid (KO.out out hout)
          clear hout
          go_wp2
          go_ret
          exact ⟨ret_bool (by rw [E.out]; rfl), KD.out, fun out' ho => by rw [E.out] at ho; cases ho; exact KF.out⟩
theorem allotR_bad {bs : List BerthD} {fl : List ShipD} {asks : List StayD} (h : staysB bs fl [] = false) : ∀ (k : Nat) (done : List StayD), allotR bs fl asks k done = none := by
  have hb : ∀ l, staysB bs fl l = false := fun l => by
    cases hl : staysB bs fl l with
    | false => rfl
    | true =>
      have := staysB_part (l := []) (m := l) (by simpa using hl)
      rw [this] at h
      cases h
  intro k done
  cases k with
  | zero => unfold allotR; rw [if_neg (by rw [hb]; simp)]
  | succ k =>
    cases ha : asks[done.length]? with
    | none => unfold allotR; rw [ha]
    | some a =>
      rw [allotR_succ ha, List.findSome?_eq_none_iff]
      intro b _
      unfold allotF
      rw [if_neg (by rw [hb]; simp)]
set_option maxHeartbeats 4000000 in
theorem implAllotBerths (vb : Value) (bs : List BerthD) (vf : Value) (fl : List ShipD) (va : Value) (asks : List StayD) (w : World) (rb : SlBerth w vb bs) (rf : SlShip w vf fl) (ra : SlStay w va asks) (fb : ∀ x ∈ bs, BerthD.wf x) (ff : ∀ x ∈ fl, ShipD.wf x) :
    Calls Try.prog 12 #[vb, vf, va] w (NewAllot (allotO bs fl asks) w) := by
  have hl := ra.1
  have RB := Lib.hid rb
  have RF := Lib.hid rf
  have RA := Lib.hid ra
  have FB := Lib.hid fb
  have FF := Lib.hid ff
  have NIL := Lib.hid (show SlStay w (.slice none 0 0) [] from ⟨by simp, .inl ⟨rfl, _, _, rfl⟩⟩)
  obtain ⟨A0, c0, rfl⟩ := rb.at
  obtain ⟨A1, c1, rfl⟩ := rf.at
  obtain ⟨A2, c2, rfl⟩ := ra.at
  obtain ⟨n, hn⟩ : ∃ n, asks.length = n := ⟨_, rfl⟩
  have HN := Lib.hid hn
  rw [hn] at hl RA
  try rw [hn]
  clear rb rf ra fb ff hn
  by_cases h6 : 6 < n
  · have g6 : decide ((6 : Int) < (n : Int)) = true := decide_eq_true (by omega)
    have E := Lib.hid (show allotO bs fl asks = none from if_neg (by rw [HN.out]; omega))
    go_enter Try.func12, Try.ntmps12
    go_wp2
    refine bodyPost_ret (v := .tuple #[.slice none 0 0, .bool false]) (by simp [results, Try.results12, go_sem]) rfl ⟨.slice none 0 0, by rw [E.out]; rfl, by rw [E.out]; exact World.ownsRow_nil _ _ _ _, Below.refl _ _⟩
  have g6 : decide ((6 : Int) < (n : Int)) = false := decide_eq_false (by omega)
  have E0 := Lib.hid (show allotO bs fl asks = allotR bs fl asks n [] by unfold allotO; rw [HN.out]; exact if_pos (by omega))
  obtain ⟨b, hb⟩ : ∃ b, staysB bs fl [] = b := ⟨_, rfl⟩
  have HB := Lib.hid hb
  clear hb
  go_enter Try.func12, Try.ntmps12
  go_wp2_with fail
  refine (implStaysOk _ bs _ fl _ [] _ RB.out RF.out NIL.out FB.out FF.out).mono ?_
  rw [HB.out]
  rintro e w1 ⟨rfl, hb1⟩
  have B1 := Lib.hid hb1
  clear hb1
  cases b with
  | false =>
    have E := Lib.hid (E0.out.trans (allotR_bad HB.out n []))
    go_wp2
    refine bodyPost_ret (v := .tuple #[.slice none 0 0, .bool false]) (by simp [results, Try.results12, go_sem]) rfl ⟨.slice none 0 0, by rw [E.out]; rfl, by rw [E.out]; exact World.ownsRow_nil _ _ _ _, B1.out⟩
  | true =>
  go_wp2_with fail
  refine (cloneStays _ asks _ (RA.out.below B1.out) (by rw [HN.out]; omega)).mono ?_
  rintro e w2 ⟨v2, rfl, ho2, hb2⟩
  have B2 := Lib.hid (B1.out.trans (hb2.mono B1.out.size))
  have C := Lib.hid (allotFrom_any _ bs _ fl asks (by rw [HN.out]; omega) FB.out FF.out w1 (RB.out.below B1.out) (RF.out.below B1.out) n v2 [] 0 w2 ⟨asks, ho2, hb2, SameAsk.refl asks, rfl⟩ rfl (by rw [HN.out]; simp) HB.out)
  obtain ⟨A3, c3, hv2⟩ := own_form ho2
  rw [HN.out] at hv2
  subst hv2
  obtain ⟨R, hR⟩ : ∃ R, allotR bs fl asks n [] = R := ⟨_, rfl⟩
  rw [hR] at C E0
  obtain ⟨r, hr⟩ : ∃ r, R.isSome = r := ⟨_, rfl⟩
  have HR := Lib.hid hr
  clear ho2 hb2 hR hr
  go_wp2_with fail
  refine C.out.mono ?_
  rintro e w3 ⟨rfl, ⟨cu, _, hb3, _, _⟩, ko⟩
  rw [HR.out]
  have B3 := Lib.hid (B1.out.trans (hb3.mono B1.out.size))
  have KO := Lib.hid ko
  clear hb3 ko
  cases r with
  | false =>
    have E := Lib.hid (E0.out.trans (show R = none by have := HR.out; simpa using this))
    go_wp2
    refine bodyPost_ret (v := .tuple #[.slice none 0 0, .bool false]) (by simp [results, Try.results12, go_sem]) rfl ⟨.slice none 0 0, by rw [E.out]; rfl, by rw [E.out]; exact World.ownsRow_nil _ _ _ _, B3.out⟩
  | true =>
    obtain ⟨out, hout⟩ := Option.isSome_iff_exists.1 HR.out
    obtain ⟨⟨cu', ho3, _, hsa, htk⟩, hol⟩ := KO.out out hout
    have hcu : cu' = out := by rw [← htk, hol, ← hsa.1]; exact List.take_length.symm
    rw [hcu] at ho3
    have O3 := Lib.hid (own_lo ho3 B1.out.size)
    have E := Lib.hid (E0.out.trans hout)
    clear ho3 hsa htk hol hcu hout KO
    go_wp2
    refine bodyPost_ret (v := .tuple #[.slice A3 n c3, .bool true]) (by simp [results, Try.results12, go_sem]) rfl ⟨.slice A3 n c3, by rw [E.out]; rfl, by rw [E.out]; exact O3.out, B3.out⟩
end Go.Proofs.Ytghjfcnboocmjaa
