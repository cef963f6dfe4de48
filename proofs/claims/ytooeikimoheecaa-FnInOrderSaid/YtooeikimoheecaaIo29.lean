
/- What InOrderLaw rests on, part 29: contracts and mathematics. -/
import Derived.Test.YtooeikimoheecaaIo9
import Derived.Test.YtooeikimoheecaaIo27
import Derived.Test.YtooeikimoheecaaIo7
namespace Go.Proofs.Ytooeikimoheecaa
open Go.RowKit
set_option maxRecDepth 100000
def Ex2 (p r : Value) (i : Nat) : Prop := p.ownBlock = some i ∨ r.ownBlock = some i
/-- What holds of a world within the loop: the points, the route, the routes so far, what has changed since w1; top: the heap's size where the round began. -/
structure OnP (w1 : World) (b0 top : Nat) (pv rv q : Value) (pts rt : List Int) (acc : List (List Int)) (X : World) : Prop where
  p : OwnInt X b0 pv pts
  r : OwnInt X b0 rv rt
  ll : LLIn X w1.heap.size top q acc
  keep : KeepX (Ex2 pv rv) w1 X
  sz : top ≤ X.heap.size
  pb : RangeV pv b0 w1.heap.size
  rb : RangeV rv b0 w1.heap.size
  ap : ApartV pv rv
  tb : w1.heap.size ≤ top
  b1 : b0 ≤ w1.heap.size
section
variable {w1 : World} {b0 top : Nat} {pv rv q : Value} {pts rt : List Int} {acc : List (List Int)} {X X' : World}
theorem OnP.keepX {ex : Nat → Prop} (h : OnP w1 b0 top pv rv q pts rt acc X) (hk : KeepX ex X X') (hx : ∀ g, g < top → ¬ ex g) : OnP w1 b0 top pv rv q pts rt acc X' :=
  ⟨own_keep h.p hk (fun g hg => hx g (by have := h.pb g hg; have := h.tb; omega)), own_keep h.r hk (fun g hg => hx g (by have := h.rb g hg; have := h.tb; omega)),
    h.ll.keep hk (fun g _ hg => hx g hg), h.keep.join hk (fun _ _ e => e) (fun i hi e => absurd e (hx i (by have := h.tb; omega))), Nat.le_trans h.sz hk.size, h.pb, h.rb, h.ap, h.tb, h.b1⟩
theorem OnP.below (h : OnP w1 b0 top pv rv q pts rt acc X) (hb : Below X.heap.size X X') : OnP w1 b0 top pv rv q pts rt acc X' := h.keepX (ex := fun _ => False) (KeepX.below hb) (fun _ _ e => e)
theorem OnP.alloc (h : OnP w1 b0 top pv rv q pts rt acc X) (o : Obj) : OnP w1 b0 top pv rv q pts rt acc (X.alloc o) := h.below (Joins.below_alloc1 X o)
theorem OnP.drew (h : OnP w1 b0 top pv rv q pts rt acc X) : OnP w1 b0 top pv rv q pts rt acc X.drew := h.keepX (ex := fun _ => False) (KeepX.drew X) (fun _ _ e => e)
/-- The points have been appended to. -/
theorem OnP.appP (h : OnP w1 b0 top pv rv q pts rt acc X) (hg : X.grownBy X' pv.ownBlock) (hp : OwnInt X' b0 pv pts) : OnP w1 b0 top pv rv q pts rt acc X' := by
  have hk : KeepX (fun i => pv.ownBlock = some i) X X' := KeepX.grown hg (fun _ e => e)
  exact ⟨hp, own_keep h.r hk (fun g hg e => h.ap g e hg), h.ll.keep hk (fun g hg _ e => by have := h.pb g e; omega), h.keep.join hk (fun _ _ e => e) (fun _ _ e => .inl e), Nat.le_trans h.sz hk.size, h.pb, h.rb, h.ap, h.tb, h.b1⟩
theorem OnP.appR (h : OnP w1 b0 top pv rv q pts rt acc X) (hg : X.grownBy X' rv.ownBlock) (hr : OwnInt X' b0 rv rt) : OnP w1 b0 top pv rv q pts rt acc X' := by
  have hk : KeepX (fun i => rv.ownBlock = some i) X X' := KeepX.grown hg (fun _ e => e)
  exact ⟨own_keep h.p hk (fun g hg e => h.ap g hg e), hr, h.ll.keep hk (fun g hg _ e => by have := h.rb g e; omega), h.keep.join hk (fun _ _ e => e) (fun _ _ e => .inr e), Nat.le_trans h.sz hk.size, h.pb, h.rb, h.ap, h.tb, h.b1⟩
/-- v' is v grown: in v's own block, or in one that has come since. -/
structure Gr (b0 top : Nat) (v v' : Value) (l : List Int) (X : World) : Prop where
  own : OwnInt X b0 v' l
  loc : ∀ g, v'.ownBlock = some g → (v.ownBlock = some g ∨ top ≤ g) ∧ g < X.heap.size
theorem Gr.keepX {ex : Nat → Prop} {v v' : Value} {l : List Int} (h : Gr b0 top v v' l X) (hk : KeepX ex X X') (hx : ∀ g, v.ownBlock = some g ∨ top ≤ g → g < X.heap.size → ¬ ex g) : Gr b0 top v v' l X' :=
  ⟨own_keep h.own hk (fun g hg => hx g (h.loc g hg).1 (h.loc g hg).2), fun g hg => ⟨(h.loc g hg).1, Nat.lt_of_lt_of_le (h.loc g hg).2 hk.size⟩⟩
theorem Gr.alloc {v v' : Value} {l : List Int} (h : Gr b0 top v v' l X) (o : Obj) : Gr b0 top v v' l (X.alloc o) := h.keepX (ex := fun _ => False) (KeepX.alloc X o) (fun _ _ _ e => e)
theorem Gr.mk' {v : Value} {l : List Int} {x : Int} {g cap : Nat} {X0 : World} (hown : X.ownsRow b0 3 1 (.slice (some ⟨g, 0, none⟩) (l.length + 1) cap) (l.length + 1) (l.flatMap intCells ++ intCells x)) (hor : v.ownBlock = some g ∨ g = X0.heap.size) (ht : top ≤ X0.heap.size) (hlt : g < X.heap.size) :
    Gr b0 top v (.slice (some ⟨g, 0, none⟩) (l.length + 1) cap) (l ++ [x]) X := by
  refine ⟨by unfold OwnInt OwnOf; rw [List.length_append, List.flatMap_append]; simpa using hown, fun j hj => ?_⟩
  simp [Value.ownBlock] at hj
  subst hj
  exact ⟨by rcases hor with e | e; · exact .inl e
            · exact .inr (by omega), hlt⟩
theorem Gr.appR {v' : Value} {l : List Int} (h : Gr b0 top pv v' l X) (ho : OnP w1 b0 top pv rv q pts rt acc X) (hg : X.grownBy X' rv.ownBlock) : Gr b0 top pv v' l X' :=
  h.keepX (ex := fun i => rv.ownBlock = some i) (KeepX.grown hg (fun _ e => e)) (fun g hl _ e => by
    rcases hl with e' | e'
    · exact ho.ap g e' e
    · have := ho.rb g e; have := ho.tb; omega)
theorem apart_last {v' : Value} {l : List Int} {g n cap : Nat} (h : Gr b0 top pv v' l X) (ho : OnP w1 b0 top pv rv q pts rt acc X) (hor : rv.ownBlock = some g ∨ g = X.heap.size) : ApartV v' (.slice (some ⟨g, 0, none⟩) n cap) := fun j hj hj' => by
  simp [Value.ownBlock] at hj'
  subst hj'
  have hl := h.loc g hj
  rcases hor with e | e
  · rcases hl.1 with e' | e'
    · exact ho.ap g e' e
    · have := ho.rb g e; have := ho.tb; omega
  · omega
theorem own_prefix {b : Nat} {v v' : Value} {l m : List Int} {g : Nat} (h : OwnInt X b v l) (h' : OwnInt X b v' (l ++ m)) (hv : v.ownBlock = some g) (hv' : v'.ownBlock = some g) (k : OwnInt X' b v' (l ++ m)) : OwnInt X' b v l := by
  refine ⟨h.1, ?_⟩
  rcases h.2 with ⟨rfl, _⟩ | ⟨g1, c1, cur1, rfl, hb1, hg1, hn1, hm1, hs1, ht1⟩
  · simp [Value.ownBlock] at hv
  · rcases h'.2 with ⟨rfl, _⟩ | ⟨g2, c2, cur2, rfl, hb2, hg2, hn2, hm2, hs2, ht2⟩
    · simp [Value.ownBlock] at hv'
    · rcases k.2 with ⟨e, _⟩ | ⟨g3, c3, cur3, e, hb3, hg3, hn3, hm3, hs3, ht3⟩
      · cases e
      · injection e with e1 _ e3
        injection e1 with e1
        injection e1 with e1
        simp [Value.ownBlock] at hv hv'
        subst e1 e3 hv hv'
        rw [hg1] at hg2
        injection hg2 with hg2
        injection hg2 with hg2
        subst hg2
        have hc : c1 = c2 := by omega
        subst hc
        refine .inr ⟨g2, c1, cur3, rfl, hb1, hg3, hn1, hm1, hs3, ?_⟩
        have e4 : cur3.toList.take (l.length * 1) = (cur3.toList.take ((l ++ m).length * 1)).take (l.length * 1) := by
          rw [List.take_take]; congr 1; rw [List.length_append]; omega
        rw [e4, ht3, List.flatMap_append, List.take_append_of_le_length (by rw [flat_len intLen]; omega), List.take_of_length_le (by rw [flat_len intLen]; omega)]
/-- Behind a call that was handed the two grown lists. -/
theorem OnP.after {p' r' : Value} {lp lr : List Int} (h : OnP w1 b0 top pv rv q pts rt acc X) (hp : Gr b0 top pv p' (pts ++ lp) X) (hr : Gr b0 top rv r' (rt ++ lr) X) (hk : KeepX (Ex2 p' r') X X')
    (kp : OwnInt X' b0 p' (pts ++ lp)) (kr : OwnInt X' b0 r' (rt ++ lr)) : OnP w1 b0 top pv rv q pts rt acc X' := by
  have hsep : ∀ g, Ex2 p' r' g → (pv.ownBlock = some g ∨ rv.ownBlock = some g) ∨ top ≤ g := fun g hg => by
    rcases hg with e | e
    · rcases (hp.loc g e).1 with e' | e'
      · exact .inl (.inl e')
      · exact .inr e'
    · rcases (hr.loc g e).1 with e' | e'
      · exact .inl (.inr e')
      · exact .inr e'
  refine ⟨?_, ?_, h.ll.keep hk (fun g hg ht e => ?_), h.keep.join hk (fun _ _ e => e) (fun i hi e => ?_), Nat.le_trans h.sz hk.size, h.pb, h.rb, h.ap, h.tb, h.b1⟩
  · cases hpb : pv.ownBlock with
    | none => exact own_keep h.p hk (fun g hg => by rw [hpb] at hg; cases hg)
    | some g =>
      by_cases e : p'.ownBlock = some g
      · exact own_prefix h.p hp.own hpb e kp
      · refine own_keep h.p hk (fun j hj e' => ?_)
        rw [hpb] at hj
        injection hj with hj
        subst hj
        rcases e' with e' | e'
        · exact e e'
        · have hb := h.pb g hpb
          have ht := h.tb
          rcases (hr.loc g e').1 with e2 | e2
          · exact h.ap g hpb e2
          · omega
  · cases hrb : rv.ownBlock with
    | none => exact own_keep h.r hk (fun g hg => by rw [hrb] at hg; cases hg)
    | some g =>
      by_cases e : r'.ownBlock = some g
      · exact own_prefix h.r hr.own hrb e kr
      · refine own_keep h.r hk (fun j hj e' => ?_)
        rw [hrb] at hj
        injection hj with hj
        subst hj
        rcases e' with e' | e'
        · have hb := h.rb g hrb
          have ht := h.tb
          rcases (hp.loc g e').1 with e2 | e2
          · exact h.ap g e2 hrb
          · omega
        · exact e e'
  · rcases hsep g e with (e' | e') | e'
    · have := h.pb g e'; omega
    · have := h.rb g e'; omega
    · omega
  · rcases hsep i e with e' | e'
    · exact e'
    · have := h.tb; omega
theorem OnP.raise (h : OnP w1 b0 top pv rv q pts rt acc X) : OnP w1 b0 X.heap.size pv rv q pts rt acc X := ⟨h.p, h.r, h.ll.wide h.sz, h.keep, Nat.le_refl _, h.pb, h.rb, h.ap, Nat.le_trans h.tb h.sz, h.b1⟩
theorem OnP.appLL {q' : Value} {acc' : List (List Int)} (h : OnP w1 b0 top pv rv q pts rt acc X) (hk : KeepX (fun i => w1.heap.size ≤ i) X X') (hll : LLIn X' w1.heap.size X'.heap.size q' acc') : OnP w1 b0 X'.heap.size pv rv q' pts rt acc' X' :=
  ⟨own_keep h.p hk (fun g hg e => by have := h.pb g hg; omega), own_keep h.r hk (fun g hg e => by have := h.rb g hg; omega), hll, h.keep.join hk (fun _ _ e => e) (fun i hi e => by omega), Nat.le_refl _, h.pb, h.rb, h.ap,
    Nat.le_trans h.tb (Nat.le_trans h.sz hk.size), h.b1⟩
theorem OnP.box {B : Nat} {cs : Array Value} {t : TypeId} (h : OnP w1 b0 top pv rv q pts rt acc X) (hb : Blk w1 B cs t) (hn : ¬ Ex2 pv rv B) : Blk X B cs t := (h.keep.block B hb.lt hn).trans hb
theorem OnP.start (hp : OwnInt w1 b0 pv pts) (hr : OwnInt w1 b0 rv rt) (ha : ApartV pv rv) (hb : b0 ≤ w1.heap.size) : OnP w1 b0 w1.heap.size pv rv (.slice none 0 0) pts rt [] w1 :=
  ⟨hp, hr, LLIn.nil _ _ _, KeepX.refl _ _, Nat.le_refl _, own_range hp, own_range hr, ha, Nat.le_refl _, hb⟩
theorem OnP.toBelow {w0 : World} (h : OnP w1 w0.heap.size top pv rv q pts rt acc X) (hb : Below w0.heap.size w0 w1) : Below w0.heap.size w0 X :=
  h.keep.toBelow hb (Nat.le_refl _) (fun i hi e => by
    rcases e with e | e
    · have := h.pb i e; omega
    · have := h.rb i e; omega)
theorem blk_keep {v : Value} {g : Nat} {cs : Array Value} {t : TypeId} (hB : Blk X g cs t) (hgr : X.grownBy X' v.ownBlock) (hr : RangeV v b0 w1.heap.size) (hg : w1.heap.size ≤ g) : Blk X' g cs t :=
  hB.grown hgr (fun e => by have := hr g e.symm; omega)
/-- What impl.routesOnward leaves. -/
def Onw (d : ChartD) (tgt : Int) (f : Nat) (pts rt : List Int) (pv rv : Value) (b0 : Nat) (w : World) (e : Ending) (w' : World) : Prop :=
  ∃ v, e = .returned v ∧ LLIn w' w.heap.size w'.heap.size v (walkF d tgt f pts rt) ∧ OwnInt w' b0 pv pts ∧ OwnInt w' b0 rv rt ∧ KeepX (Ex2 pv rv) w w'
end
end Go.Proofs.Ytooeikimoheecaa
