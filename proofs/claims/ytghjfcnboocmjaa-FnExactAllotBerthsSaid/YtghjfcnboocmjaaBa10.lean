
/- What ExactStaysOk and ExactFindBerth and ExactAllotBerths and ExactBerthLoad rests on, part 10: contracts and mathematics. -/
import Derived.Test.YtghjfcnboocmjaaBaTk
import Derived.Test.YtghjfcnboocmjaaBa8
import Derived.Test.YtghjfcnboocmjaaBa0
import Derived.Test.YtghjfcnboocmjaaBa1
import Derived.StillTailTactics
import Derived.RangeFuncNested
import Derived.RangeFuncBound
import Derived.RangeFuncCalls
import Derived.RangeFuncLeaves
import Derived.Shelf.Abstract
import Derived.Shelf.RegionOpen
import Derived.WalkKit
import Derived.OwnWalkIn
import Derived.TacticsInMore
import Derived.LoopNIn
import Derived.LoopIn
import Derived.Maps.AppendAt
import Derived.Deep.AppendLies
import Derived.Laws.AppendOwn
import Derived.BigRegionIn
import Derived.Sort.CutIn
import Derived.OrdersIn
import Derived.OrdersHeld
import Derived.Lib.Hide
import Derived.Test.YtghjfcnboocmjaaBa2
import Derived.Test.YtghjfcnboocmjaaBa7
import Derived.Deep.RegionHeld3
import Derived.Deep.DeepCutAuto
namespace Go.Proofs.Ytghjfcnboocmjaa
open Go.RowKit
set_option maxRecDepth 100000
section
variable {bs : List BerthD} {fl : List ShipD} {l : List StayD}
end
/-- A stay as it was asked for. -/
def Asked (s a : StayD) : Prop := s.ship = a.ship ∧ s.fr = a.fr ∧ s.tt = a.tt
theorem findSome_some {α β : Type} {f : α → Option β} {l : List α} {b : β} (h : l.findSome? f = some b) : ∃ a ∈ l, f a = some b := by
  rw [List.findSome?_eq_some_iff] at h
  obtain ⟨l1, a, l2, rfl, ha, -⟩ := h
  exact ⟨a, by simp, ha⟩
theorem allotR_some {bs : List BerthD} {fl : List ShipD} {asks : List StayD} : ∀ {k : Nat} {done out : List StayD}, done.length + k = asks.length → (∀ (i : Nat) a s, asks[i]? = some a → done[i]? = some s → Asked s a) → allotR bs fl asks k done = some out →
    staysB bs fl out = true ∧ out.length = asks.length ∧ ∀ (i : Nat) a s, asks[i]? = some a → out[i]? = some s → Asked s a
  | 0, done, out, hl, ha, h => by
    unfold allotR at h
    split at h
    · injection h with h
      subst h
      exact ⟨by assumption, by omega, ha⟩
    · cases h
  | k + 1, done, out, hl, ha, h => by
    unfold allotR at h
    obtain ⟨a, hx⟩ : ∃ a, asks[done.length]? = some a := ⟨_, List.getElem?_eq_getElem (by omega)⟩
    rw [hx] at h
    obtain ⟨b, -, hb⟩ := findSome_some h
    split at hb
    · refine allotR_some (by simp; omega) (fun i a' s ha' hs => ?_) hb
      rw [List.getElem?_append] at hs
      split at hs
      · exact ha i a' s ha' hs
      · rename_i hi
        cases e : i - done.length with
        | zero =>
          rw [e] at hs
          simp at hs
          subst hs
          have : i = done.length := by omega
          rw [this, hx] at ha'
          injection ha' with ha'
          subst ha'
          exact ⟨rfl, rfl, rfl⟩
        | succ m => rw [e] at hs; simp at hs
    · cases hb
theorem allotO_some {bs : List BerthD} {fl : List ShipD} {asks out : List StayD} (h : allotO bs fl asks = some out) : staysB bs fl out = true ∧ out.length = asks.length ∧ ∀ (i : Nat) a s, asks[i]? = some a → out[i]? = some s → Asked s a := by
  unfold allotO at h
  split at h
  · exact allotR_some (by simp) (fun i a s _ hs => by simp at hs) h
  · cases h
end Go.Proofs.Ytghjfcnboocmjaa
namespace Go.Proofs.Ytghjfcnboocmjaa
open Go.RowKit
set_option maxRecDepth 100000
section
variable {ops : Array Oper} {o : Oper} {a : Act} {w : World} {K : Act → World → Prop} {Q : Exit → Act → World → Prop} {E : Prop}
theorem step_stay0 (hgd : o.guard = none) (ho : o.op = Op.buildSlice 25 0 #[]) (h : ∀ x', x' = w.alloc (.cells #[] 33) → K (a.put o.dst (.slice (some ⟨w.heap.size, 0, none⟩) 0 0)) x') :
    if Region.wanted o (yielded ops a.tmps) = true then Oper.wp Try.prog o a w K Q else E := by
  have hw : Region.wanted o (yielded ops a.tmps) = true := by simp [Region.wanted, hgd]
  rw [if_pos hw]
  unfold Oper.wp execOp
  rw [ho]
  go_simp
  exact h _ rfl
theorem step_stay1 (hgd : o.guard = none) (x : Operand) (s : StayD) (ho : o.op = Op.buildSlice 25 1 #[(0, x)]) (hx : a.eval x = s.val) (h : ∀ x', x' = w.alloc (.cells #[.int .i64 s.ship, .int .i64 s.berth, .int .i64 s.fr, .int .i64 s.tt] 33) → K (a.put o.dst (.slice (some ⟨w.heap.size, 0, none⟩) 1 1)) x') :
    if Region.wanted o (yielded ops a.tmps) = true then Oper.wp Try.prog o a w K Q else E := by
  have hw : Region.wanted o (yielded ops a.tmps) = true := by simp [Region.wanted, hgd]
  rw [if_pos hw]
  unfold Oper.wp execOp
  rw [ho]
  simp only [List.map_toArray, List.map_cons, List.map_nil, hx]
  go_simp
  exact h _ rfl
end
/-- Stays of one's own, over what has come since wd. -/
abbrev LivS (wd x : World) (L : List (Nat × Value × List StayD)) : Prop := LivO 4 StayD.cells 33 wd x L
theorem LivS.made {wd x x' : World} {L : List (Nat × Value × List StayD)} (h : LivS wd x L) (τ : Nat) (e : x' = x.alloc (.cells #[] 33)) : LivS wd x' ((τ, .slice (some ⟨x.heap.size, 0, none⟩) 0 0, []) :: L) := by
  subst e
  exact LivO.build h stayLen τ [] (by simp)
theorem LivS.one {wd x x' : World} {L : List (Nat × Value × List StayD)} (h : LivS wd x L) (τ : Nat) (s : StayD) (e : x' = x.alloc (.cells #[.int .i64 s.ship, .int .i64 s.berth, .int .i64 s.fr, .int .i64 s.tt] 33)) : LivS wd x' ((τ, .slice (some ⟨x.heap.size, 0, none⟩) 1 1, [s]) :: L) := by
  subst e
  exact LivO.build h stayLen τ [s] (by simp)
theorem step_livS {ops : Array Oper} {o : Oper} {a : Act} {K : Act → World → Prop} {Q : Exit → Act → World → Prop} {E : Prop} {wd x : World} {L L' : List (Nat × Value × List StayD)} (h : LivS wd x L) {τ : Nat} (τ' : Nat) {v u : Value} {l m : List StayD} (hgd : o.guard = none) (s r : Operand)
    (ho : o.op = .call { callee := .builtin .append, args := #[s, r], argTypes := #[25, 25] }) (hs : a.eval s = v) (hr : a.eval r = u) (hv : (τ, v, l) ∈ L) (hu : SlStay x u m) (hb : l.length + m.length ≤ 10000000)
    (hL : ∀ q ∈ L', q ∈ L ∧ q.1 ≠ τ) (hK : ∀ v' x', LivS wd x' ((τ', v', l ++ m) :: L') → K (a.put o.dst v') x') :
    if Region.wanted o (yielded ops a.tmps) = true then Oper.wp Try.prog o a x K Q else E := by
  obtain ⟨i0, hi, hz0, hz1, hz2⟩ := info_parts info_stay
  exact step_livO h stayLen stay_one τ' hgd s r ho hs hr Try.underlying25 hi hz0 hz1 hz2 rfl (by omega) (by omega) hv hu hb hL hK
set_option maxHeartbeats 8000000 in
theorem specWith (v : Value) (l : List StayD) (s : StayD) (w : World) (h : SlStay w v l) (hn : l.length ≤ 1000000) :
    Calls Try.prog 77 #[v, s.val] w (NewStay (l ++ [s]) w) := by
  have bl := Joins.below_alloc1 w (.cells #[.int .i64 s.ship, .int .i64 s.berth, .int .i64 s.fr, .int .i64 s.tt] 33)
  have K0 := Blk.new w #[.int .i64 s.ship, .int .i64 s.berth, .int .i64 s.fr, .int .i64 s.tt] 33
  obtain ⟨W0, hW0⟩ : ∃ W, W = w.alloc (.cells #[.int .i64 s.ship, .int .i64 s.berth, .int .i64 s.fr, .int .i64 s.tt] 33) := ⟨_, rfl⟩
  rw [← hW0] at bl K0
  have hd := (Below.refl W0.heap.size W0).drew
  have HW0 := Lib.hid hW0
  obtain ⟨W1, hW1⟩ : ∃ W, W = W0.drew := ⟨_, rfl⟩
  rw [← hW1] at hd
  have HW1 := Lib.hid hW1
  have B1 := Lib.hid (bl.trans (hd.mono bl.size))
  have K1 := Lib.hid (K0.below hd)
  have HS := Lib.hid (h.below B1.out)
  obtain ⟨A, c, rfl⟩ := h.at
  have LV := Lib.hid (show LivS W1 W1 [] from LivO.nil W1)
  have c0 : W0.cell? ⟨w.heap.size, 0, none⟩ = some (.int .i64 s.ship) := K0.cell 0
  have c1 : W0.cell? ⟨w.heap.size, 1, none⟩ = some (.int .i64 s.berth) := K0.cell 1
  have c2 : W0.cell? ⟨w.heap.size, 2, none⟩ = some (.int .i64 s.fr) := K0.cell 2
  have c3 : W0.cell? ⟨w.heap.size, 3, none⟩ = some (.int .i64 s.tt) := K0.cell 3
  obtain ⟨m, hm⟩ : ∃ m, l.length = m := ⟨_, rfl⟩
  have HM := Lib.hid hm
  rw [hm] at HS hn
  try rw [hm]
  clear h bl K0 hd hW0 hW1 hm
  go_enter Try.func77, Try.ntmps77
  go_upto_region 1 with fail
  rw [← HW0.out]
  refine wp_region_held_drew (S := (fun w' => w'.cell? ⟨w.heap.size, 0, none⟩ = some (.int .i64 s.ship) ∧ w'.cell? ⟨w.heap.size, 1, none⟩ = some (.int .i64 s.berth) ∧ w'.cell? ⟨w.heap.size, 2, none⟩ = some (.int .i64 s.fr) ∧ w'.cell? ⟨w.heap.size, 3, none⟩ = some (.int .i64 s.tt))) (by kernel_rfl) ?_ (fun hHeld => ?_)
  · (try dsimp only); go_keep
  rw [← HW1.out] at hHeld ⊢
  clear c0 c1 c2 c3
  refine tk 1 ?_
  (try simp only [Act.put]); (try simp only [List.setIfInBounds_toArray]); (try simp only [List.set_cons_succ]); (try simp only [List.set_cons_zero])
  refine tk 3 ?_
  (try simp only [Act.put]); (try simp only [List.setIfInBounds_toArray]); (try simp only [List.set_cons_succ]); (try simp only [List.set_cons_zero])
  refine wpAnyH_ready (rs := [0, 4]) (by kernel_rfl) (by simp) ?_
  refine AllReadyH.cons rfl (fun K hK => ?_) (AllReadyH.cons rfl (fun K hK => ?_) (AllReadyH.nil))
  · refine step_stay0 (by rfl) (by rfl) ?_
    intro xc hxc
    have LV := Lib.hid (LV.out.made 0 hxc)
    clear hxc
    refine hK.out _ _ ⟨(K1.out.below LV.out.low).cell 0, (K1.out.below LV.out.low).cell 1, (K1.out.below LV.out.low).cell 2, (K1.out.below LV.out.low).cell 3⟩ (fun hHeld => ?_)
    clear hK K
    (try simp only [Act.put]); (try simp only [List.setIfInBounds_toArray]); (try simp only [List.set_cons_succ]); (try simp only [List.set_cons_zero])
    refine wpAnyH_ready (rs := [2, 4]) (by kernel_rfl) (by simp) ?_
    refine AllReadyH.cons rfl (fun K hK => ?_) (AllReadyH.cons rfl (fun K hK => ?_) (AllReadyH.nil))
    · refine step_livS LV.out (L' := []) (τ := 0) 0 (by rfl) _ _ (by rfl) (by rfl) (by rfl) (by first | exact List.mem_cons_self | exact List.mem_cons_of_mem _ List.mem_cons_self) (HS.out.below LV.out.low) (by rw [HM.out]; simp; omega) (fun q hq => by first | (cases hq; done) | (obtain rfl := List.mem_singleton.1 hq; exact ⟨(by first | exact List.mem_cons_self | exact List.mem_cons_of_mem _ List.mem_cons_self), by simp⟩)) ?_
      intro vc xc hxc
      (try simp only [List.nil_append] at hxc)
      have LV := Lib.hid hxc
      clear hxc
      refine hK.out _ _ ⟨(K1.out.below LV.out.low).cell 0, (K1.out.below LV.out.low).cell 1, (K1.out.below LV.out.low).cell 2, (K1.out.below LV.out.low).cell 3⟩ (fun hHeld => ?_)
      clear hK K
      (try simp only [Act.put]); (try simp only [List.setIfInBounds_toArray]); (try simp only [List.set_cons_succ]); (try simp only [List.set_cons_zero])
      refine wpAnyH_ready (rs := [4]) (by kernel_rfl) (by simp) ?_
      refine AllReadyH.cons rfl (fun K hK => ?_) (AllReadyH.nil)
      refine step_stay1 (by rfl) _ s (by rfl) (by rfl) ?_
      intro xc hxc
      have LV := Lib.hid (LV.out.one 1 s hxc)
      clear hxc
      refine hK.out _ _ ⟨(K1.out.below LV.out.low).cell 0, (K1.out.below LV.out.low).cell 1, (K1.out.below LV.out.low).cell 2, (K1.out.below LV.out.low).cell 3⟩ (fun hHeld => ?_)
      clear hK K
      (try simp only [Act.put]); (try simp only [List.setIfInBounds_toArray]); (try simp only [List.set_cons_succ]); (try simp only [List.set_cons_zero])
      refine wpAnyH_ready (rs := [5]) (by kernel_rfl) (by simp) ?_
      refine AllReadyH.cons rfl (fun K hK => ?_) (AllReadyH.nil)
      refine step_livS LV.out (L' := []) (τ := 0) 0 (by rfl) _ _ (by rfl) (by rfl) (by rfl) (by first | exact List.mem_cons_self | exact List.mem_cons_of_mem _ List.mem_cons_self) (OwnStay.sl (LV.out.own (1, _, [s]) (by first | exact List.mem_cons_self | exact List.mem_cons_of_mem _ List.mem_cons_self)) (by simp)) (by rw [HM.out]; simp; omega) (fun q hq => by cases hq) ?_
      intro vc xc hxc
      have LV := Lib.hid hxc
      clear hxc
      refine hK.out _ _ ⟨(K1.out.below LV.out.low).cell 0, (K1.out.below LV.out.low).cell 1, (K1.out.below LV.out.low).cell 2, (K1.out.below LV.out.low).cell 3⟩ (fun hHeld => ?_)
      clear hK K
      (try simp only [Act.put]); (try simp only [List.setIfInBounds_toArray]); (try simp only [List.set_cons_succ]); (try simp only [List.set_cons_zero])
      refine tk 6 ?_
      (try simp only [Act.put]); (try simp only [List.setIfInBounds_toArray]); (try simp only [List.set_cons_succ]); (try simp only [List.set_cons_zero])
      refine wpAnyH_done (by kernel_rfl) ?_ _
      have HO := Lib.hid (LV.out.own _ List.mem_cons_self)
      have HL := Lib.hid (B1.out.trans (LV.out.low.mono B1.out.size))
      go_wp2
      go_ret
      exact ⟨_, rfl, own_lo HO.out B1.out.size, HL.out⟩
    · refine step_stay1 (by rfl) _ s (by rfl) (by rfl) ?_
      intro xc hxc
      have LV := Lib.hid (LV.out.one 1 s hxc)
      clear hxc
      refine hK.out _ _ ⟨(K1.out.below LV.out.low).cell 0, (K1.out.below LV.out.low).cell 1, (K1.out.below LV.out.low).cell 2, (K1.out.below LV.out.low).cell 3⟩ (fun hHeld => ?_)
      clear hK K
      (try simp only [Act.put]); (try simp only [List.setIfInBounds_toArray]); (try simp only [List.set_cons_succ]); (try simp only [List.set_cons_zero])
      refine wpAnyH_ready (rs := [2]) (by kernel_rfl) (by simp) ?_
      refine AllReadyH.cons rfl (fun K hK => ?_) (AllReadyH.nil)
      refine step_livS LV.out (L' := [(1, _, [s])]) (τ := 0) 0 (by rfl) _ _ (by rfl) (by rfl) (by rfl) (by first | exact List.mem_cons_self | exact List.mem_cons_of_mem _ List.mem_cons_self) (HS.out.below LV.out.low) (by rw [HM.out]; simp; omega) (fun q hq => by first | (cases hq; done) | (obtain rfl := List.mem_singleton.1 hq; exact ⟨(by first | exact List.mem_cons_self | exact List.mem_cons_of_mem _ List.mem_cons_self), by simp⟩)) ?_
      intro vc xc hxc
      (try simp only [List.nil_append] at hxc)
      have LV := Lib.hid hxc
      clear hxc
      refine hK.out _ _ ⟨(K1.out.below LV.out.low).cell 0, (K1.out.below LV.out.low).cell 1, (K1.out.below LV.out.low).cell 2, (K1.out.below LV.out.low).cell 3⟩ (fun hHeld => ?_)
      clear hK K
      (try simp only [Act.put]); (try simp only [List.setIfInBounds_toArray]); (try simp only [List.set_cons_succ]); (try simp only [List.set_cons_zero])
      refine wpAnyH_ready (rs := [5]) (by kernel_rfl) (by simp) ?_
      refine AllReadyH.cons rfl (fun K hK => ?_) (AllReadyH.nil)
      refine step_livS LV.out (L' := []) (τ := 0) 0 (by rfl) _ _ (by rfl) (by rfl) (by rfl) (by first | exact List.mem_cons_self | exact List.mem_cons_of_mem _ List.mem_cons_self) (OwnStay.sl (LV.out.own (1, _, [s]) (by first | exact List.mem_cons_self | exact List.mem_cons_of_mem _ List.mem_cons_self)) (by simp)) (by rw [HM.out]; simp; omega) (fun q hq => by cases hq) ?_
      intro vc xc hxc
      have LV := Lib.hid hxc
      clear hxc
      refine hK.out _ _ ⟨(K1.out.below LV.out.low).cell 0, (K1.out.below LV.out.low).cell 1, (K1.out.below LV.out.low).cell 2, (K1.out.below LV.out.low).cell 3⟩ (fun hHeld => ?_)
      clear hK K
      (try simp only [Act.put]); (try simp only [List.setIfInBounds_toArray]); (try simp only [List.set_cons_succ]); (try simp only [List.set_cons_zero])
      refine tk 6 ?_
      (try simp only [Act.put]); (try simp only [List.setIfInBounds_toArray]); (try simp only [List.set_cons_succ]); (try simp only [List.set_cons_zero])
      refine wpAnyH_done (by kernel_rfl) ?_ _
      have HO := Lib.hid (LV.out.own _ List.mem_cons_self)
      have HL := Lib.hid (B1.out.trans (LV.out.low.mono B1.out.size))
      go_wp2
      go_ret
      exact ⟨_, rfl, own_lo HO.out B1.out.size, HL.out⟩
  · refine step_stay1 (by rfl) _ s (by rfl) (by rfl) ?_
    intro xc hxc
    have LV := Lib.hid (LV.out.one 1 s hxc)
    clear hxc
    refine hK.out _ _ ⟨(K1.out.below LV.out.low).cell 0, (K1.out.below LV.out.low).cell 1, (K1.out.below LV.out.low).cell 2, (K1.out.below LV.out.low).cell 3⟩ (fun hHeld => ?_)
    clear hK K
    (try simp only [Act.put]); (try simp only [List.setIfInBounds_toArray]); (try simp only [List.set_cons_succ]); (try simp only [List.set_cons_zero])
    refine wpAnyH_ready (rs := [0]) (by kernel_rfl) (by simp) ?_
    refine AllReadyH.cons rfl (fun K hK => ?_) (AllReadyH.nil)
    refine step_stay0 (by rfl) (by rfl) ?_
    intro xc hxc
    have LV := Lib.hid (LV.out.made 0 hxc)
    clear hxc
    refine hK.out _ _ ⟨(K1.out.below LV.out.low).cell 0, (K1.out.below LV.out.low).cell 1, (K1.out.below LV.out.low).cell 2, (K1.out.below LV.out.low).cell 3⟩ (fun hHeld => ?_)
    clear hK K
    (try simp only [Act.put]); (try simp only [List.setIfInBounds_toArray]); (try simp only [List.set_cons_succ]); (try simp only [List.set_cons_zero])
    refine wpAnyH_ready (rs := [2]) (by kernel_rfl) (by simp) ?_
    refine AllReadyH.cons rfl (fun K hK => ?_) (AllReadyH.nil)
    refine step_livS LV.out (L' := [(1, _, [s])]) (τ := 0) 0 (by rfl) _ _ (by rfl) (by rfl) (by rfl) (by first | exact List.mem_cons_self | exact List.mem_cons_of_mem _ List.mem_cons_self) (HS.out.below LV.out.low) (by rw [HM.out]; simp; omega) (fun q hq => by first | (cases hq; done) | (obtain rfl := List.mem_singleton.1 hq; exact ⟨(by first | exact List.mem_cons_self | exact List.mem_cons_of_mem _ List.mem_cons_self), by simp⟩)) ?_
    intro vc xc hxc
    (try simp only [List.nil_append] at hxc)
    have LV := Lib.hid hxc
    clear hxc
    refine hK.out _ _ ⟨(K1.out.below LV.out.low).cell 0, (K1.out.below LV.out.low).cell 1, (K1.out.below LV.out.low).cell 2, (K1.out.below LV.out.low).cell 3⟩ (fun hHeld => ?_)
    clear hK K
    (try simp only [Act.put]); (try simp only [List.setIfInBounds_toArray]); (try simp only [List.set_cons_succ]); (try simp only [List.set_cons_zero])
    refine wpAnyH_ready (rs := [5]) (by kernel_rfl) (by simp) ?_
    refine AllReadyH.cons rfl (fun K hK => ?_) (AllReadyH.nil)
    refine step_livS LV.out (L' := []) (τ := 0) 0 (by rfl) _ _ (by rfl) (by rfl) (by rfl) (by first | exact List.mem_cons_self | exact List.mem_cons_of_mem _ List.mem_cons_self) (OwnStay.sl (LV.out.own (1, _, [s]) (by first | exact List.mem_cons_self | exact List.mem_cons_of_mem _ List.mem_cons_self)) (by simp)) (by rw [HM.out]; simp; omega) (fun q hq => by cases hq) ?_
    intro vc xc hxc
    have LV := Lib.hid hxc
    clear hxc
    refine hK.out _ _ ⟨(K1.out.below LV.out.low).cell 0, (K1.out.below LV.out.low).cell 1, (K1.out.below LV.out.low).cell 2, (K1.out.below LV.out.low).cell 3⟩ (fun hHeld => ?_)
    clear hK K
    (try simp only [Act.put]); (try simp only [List.setIfInBounds_toArray]); (try simp only [List.set_cons_succ]); (try simp only [List.set_cons_zero])
    refine tk 6 ?_
    (try simp only [Act.put]); (try simp only [List.setIfInBounds_toArray]); (try simp only [List.set_cons_succ]); (try simp only [List.set_cons_zero])
    refine wpAnyH_done (by kernel_rfl) ?_ _
    have HO := Lib.hid (LV.out.own _ List.mem_cons_self)
    have HL := Lib.hid (B1.out.trans (LV.out.low.mono B1.out.size))
    go_wp2
    go_ret
    exact ⟨_, rfl, own_lo HO.out B1.out.size, HL.out⟩
end Go.Proofs.Ytghjfcnboocmjaa
