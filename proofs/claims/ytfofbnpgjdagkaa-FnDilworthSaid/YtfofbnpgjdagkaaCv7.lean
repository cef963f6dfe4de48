
/- What ExactRivalDuties and Dilworth and CoversLaw rests on, part 7: contracts and mathematics. -/
import Derived.Test.YtfofbnpgjdagkaaCv4
import Derived.Test.YtfofbnpgjdagkaaCv1
import Derived.Test.YtfofbnpgjdagkaaCv3
import Derived.Test.YtfofbnpgjdagkaaCv5
import Derived.Test.YtfofbnpgjdagkaaCv0
import Derived.StillTailTactics
import Derived.Test.YtfofbnpgjdagkaaCv2
import Derived.Deep.RegionHeld3
namespace Go.Proofs.Ytfofbnpgjdagkaa
open Go.RowKit
set_option maxRecDepth 100000
def dutyB (d : DutyD) : Bool := inB d.fr 0 2880 && decide (d.fr < d.tt) && decide (d.tt ≤ 2880) && inB d.a 0 7 && inB d.b 0 7
def dutiesB (l : List DutyD) : Bool := decide (l.length ≤ 12) && l.all dutyB
def tableB (pause : Int) (mv : List Int) : Bool := inB pause 0 2880 && decide (mv.length = 64) && mv.all (fun n => inB n 0 240)
def gapO (pause : Int) (mv : List Int) (d e : DutyD) : Option Int := if tableB pause mv = true ∧ inB d.b 0 7 = true ∧ inB e.a 0 7 = true then (mv[(d.b * 8 + e.a).toNat]?).map (fun n => pause + n) else none
def canB (pause : Int) (mv : List Int) (d e : DutyD) : Bool := match gapO pause mv d e with
  | some n => dutyB d && dutyB e && decide (d.tt + n ≤ e.fr)
  | none => false
def bothB (pause : Int) (mv : List Int) (d e : DutyD) : Bool := canB pause mv d e || canB pause mv e d
theorem bothB_comm (pause : Int) (mv : List Int) (d e : DutyD) : bothB pause mv d e = bothB pause mv e d := by unfold bothB; rw [Bool.or_comm]
/-- Whether one person can perform the i-th and the j-th duty. -/
def bothAt (pause : Int) (mv : List Int) (l : List DutyD) (i j : Nat) : Bool := match l[i]?, l[j]? with
  | some d, some e => bothB pause mv d e
  | _, _ => false
theorem bothAt_comm (pause : Int) (mv : List Int) (l : List DutyD) (i j : Nat) : bothAt pause mv l i j = bothAt pause mv l j i := by
  unfold bothAt
  cases l[i]? <;> cases l[j]? <;> first | rfl | exact bothB_comm _ _ _ _
theorem bothAt_at {pause : Int} {mv : List Int} {l : List DutyD} {i j : Nat} {d e : DutyD} (hd : l[i]? = some d) (he : l[j]? = some e) : bothAt pause mv l i j = bothB pause mv d e := by unfold bothAt; rw [hd, he]
def pCover (pause : Int) (mv : List Int) (l : List DutyD) (done : List Int) (n : Int) : Bool := inB n 0 ((l.length : Int) - 1) && (List.range done.length).all (fun k => !(done[k]? == some n) || bothAt pause mv l done.length k)
def isCovB (pause : Int) (mv : List Int) (l : List DutyD) (who : List Int) : Bool := dutiesB l && (who.length == l.length) && runB (pCover pause mv l) [] who
def castL (l : List Nat) : List Int := l.map (fun n : Nat => (n : Int))
def leastCov (pause : Int) (mv : List Int) (l : List DutyD) : Option (List Nat × Nat) := if dutiesB l = true ∧ tableB pause mv = true then coverO (bothAt pause mv l) l.length else none
def rivalD (pause : Int) (mv : List Int) (l : List DutyD) : List Int := if dutiesB l = true ∧ tableB pause mv = true then castL (rivalL (bothAt pause mv l) l.length) else []
theorem dutiesB_all {l : List DutyD} (h : dutiesB l = true) : l.length ≤ 12 ∧ ∀ d ∈ l, dutyB d = true := by
  unfold dutiesB at h
  rw [Bool.and_eq_true, List.all_eq_true] at h
  exact ⟨of_decide_eq_true h.1, h.2⟩
theorem dutyB_true {d : DutyD} (h : dutyB d = true) : 0 ≤ d.fr ∧ d.fr < d.tt ∧ d.tt ≤ 2880 ∧ (0 ≤ d.a ∧ d.a ≤ 7) ∧ 0 ≤ d.b ∧ d.b ≤ 7 := by
  unfold dutyB at h
  simp only [Bool.and_eq_true] at h
  have h1 := of_decide_eq_true h.1.1.1.1
  have h2 := of_decide_eq_true h.1.1.1.2
  have h3 := of_decide_eq_true h.1.1.2
  have h4 := of_decide_eq_true h.1.2
  have h5 := of_decide_eq_true h.2
  exact ⟨h1.1, h2, h3, h4, h5⟩
/-- A cover of the search is a cover. -/
theorem isCov_of {pause : Int} {mv : List Int} {l : List DutyD} {w : List Nat} {n : Nat} (hl : dutiesB l = true) (hc : CovOk (bothAt pause mv l) n w) (hn : n ≤ l.length) (hw : w.length = l.length) : isCovB pause mv l (castL w) = true := by
  have hcl : (castL w).length = w.length := by unfold castL; rw [List.length_map]
  have hr : ∀ k, k ≤ w.length → RunTo (pCover pause mv l) (castL w) k := by
    intro k
    induction k with
    | zero => intro _; exact RunTo.zero _ _
    | succ k ih =>
      intro hk
      obtain ⟨x, hx⟩ : ∃ x, w[k]? = some x := ⟨_, List.getElem?_eq_getElem (by omega)⟩
      have hx' : (castL w)[k]? = some (x : Int) := by unfold castL; rw [List.getElem?_map, hx]; rfl
      refine (ih (by omega)).next hx' ?_
      have hlt := hc.lt x (List.mem_of_getElem? hx)
      unfold pCover
      rw [inB_mk (by omega) (by omega), Bool.true_and, List.all_eq_true]
      intro j hj
      have hkl : ((castL w).take k).length = k := by rw [List.length_take, hcl]; omega
      rw [hkl] at hj ⊢
      have hj := List.mem_range.1 hj
      obtain ⟨y, hy⟩ : ∃ y, w[j]? = some y := ⟨_, List.getElem?_eq_getElem (by omega)⟩
      have hy' : ((castL w).take k)[j]? = some (y : Int) := by rw [List.getElem?_take, if_pos hj]; unfold castL; rw [List.getElem?_map, hy]; rfl
      rw [hy']
      by_cases e : y = x
      · subst e
        rw [hc.both k j y hj hx hy, Bool.or_true]
      · have : ((some (y : Int)) == some (x : Int)) = false := by simp; omega
        rw [this]
        rfl
  unfold isCovB
  rw [hl, hcl, hw, (show runB (pCover pause mv l) [] (castL w) = true from (by have := hr w.length (Nat.le_refl _); rw [← hcl] at this; exact this.all))]
  simp
/-- The moves of a table without ways. -/
def stayMv : List Int := List.replicate 64 0
theorem tableB_stay {pause : Int} (h : 0 ≤ pause ∧ pause ≤ 2880) : tableB pause stayMv = true := by
  unfold tableB stayMv
  rw [inB_mk h.1 h.2, List.length_replicate, List.all_replicate]
  rfl
theorem canB_stay {pause : Int} (h : 0 ≤ pause ∧ pause ≤ 2880) {d e : DutyD} (hd : dutyB d = true) (he : dutyB e = true) : canB pause stayMv d e = decide (d.tt + pause ≤ e.fr) := by
  obtain ⟨-, -, -, ⟨a0, a1⟩, b0, b1⟩ := dutyB_true hd
  obtain ⟨-, -, -, ⟨c0, c1⟩, d0, d1⟩ := dutyB_true he
  have hg : gapO pause stayMv d e = some pause := by
    unfold gapO
    rw [if_pos ⟨tableB_stay h, inB_mk b0 b1, inB_mk c0 c1⟩]
    unfold stayMv
    rw [List.getElem?_replicate, if_pos (by omega)]
    simp
  unfold canB
  rw [hg]
  simp only
  rw [hd, he]
  rfl
/-- Without ways between the points, duties are intervals. -/
theorem dilworth_stay {pause : Int} (h : 0 ≤ pause ∧ pause ≤ 2880) {l : List DutyD} (hl : dutiesB l = true) : ∃ w n, leastCov pause stayMv l = some (w, n) ∧ (n : Int) = (rivalD pause stayMv l).length := by
  obtain ⟨w, n, e, hc, hlen, -, -, least⟩ := cover_some (bothAt pause stayMv l) l.length
  refine ⟨w, n, by unfold leastCov; rw [if_pos ⟨hl, tableB_stay h⟩]; exact e, ?_⟩
  have hv := (dutiesB_all hl).2
  have key := dilworth (m := l.length) (fun i => ((l[i]?).map DutyD.fr).getD 0) (fun i => ((l[i]?).map (fun d => d.tt + pause)).getD 0) (bothAt_comm pause stayMv l) (fun i hi => by
      obtain ⟨d, hd⟩ : ∃ d, l[i]? = some d := ⟨_, List.getElem?_eq_getElem hi⟩
      have := dutyB_true (hv d (List.mem_of_getElem? hd))
      show ((l[i]?).map DutyD.fr).getD 0 < ((l[i]?).map (fun d => d.tt + pause)).getD 0
      rw [hd]
      show d.fr < d.tt + pause
      omega) (fun i j hi hj _ => by
      obtain ⟨d, hd⟩ : ∃ d, l[i]? = some d := ⟨_, List.getElem?_eq_getElem hi⟩
      obtain ⟨e, he⟩ : ∃ d, l[j]? = some d := ⟨_, List.getElem?_eq_getElem hj⟩
      rw [bothAt_at hd he]
      show bothB pause stayMv d e = false ↔ ((l[i]?).map DutyD.fr).getD 0 < ((l[j]?).map (fun d => d.tt + pause)).getD 0 ∧ ((l[j]?).map DutyD.fr).getD 0 < ((l[i]?).map (fun d => d.tt + pause)).getD 0
      rw [hd, he]
      show bothB pause stayMv d e = false ↔ d.fr < e.tt + pause ∧ e.fr < d.tt + pause
      unfold bothB
      rw [canB_stay h (hv d (List.mem_of_getElem? hd)) (hv e (List.mem_of_getElem? he)), canB_stay h (hv e (List.mem_of_getElem? he)) (hv d (List.mem_of_getElem? hd)), Bool.or_eq_false_iff, decide_eq_false_iff_not, decide_eq_false_iff_not]
      omega) hc hlen least
  unfold rivalD castL
  rw [if_pos ⟨hl, tableB_stay h⟩, List.length_map, ← key]
end Go.Proofs.Ytfofbnpgjdagkaa
namespace Go.Proofs.Ytfofbnpgjdagkaa
open Go.RowKit
set_option maxRecDepth 100000
/-- A row in memory: its value, and what it reads as. -/
structure BRow where
  v : Value
  l : List Bool
def BRow.cells (r : BRow) : List Value := [r.v]
theorem browLen (r : BRow) : r.cells.length = 1 := rfl
/-- A list of rows reads as the matrix M. -/
def SlRows (w : World) (v : Value) (rs : List BRow) : Prop := SlOf 1 BRow.cells w v rs ∧ ∀ r ∈ rs, SlBool w r.v r.l
theorem SlRows.below {w w' : World} {v : Value} {rs : List BRow} (h : SlRows w v rs) (hb : Below w.heap.size w w') : SlRows w' v rs := ⟨SlOf.below h.1 hb, fun r hr => SlOf.below (h.2 r hr) hb⟩
theorem SlRows.form {w : World} {v : Value} {rs : List BRow} (h : SlRows w v rs) : ∃ A c, v = .slice A rs.length c := SlOf.form h.1
/-- A list of rows of one's own, each over memory of its own kind, that is new since w. -/
structure GathB (w : World) (v : Value) (rs : List BRow) (wr : World) : Prop where
  own : OwnOf 1 BRow.cells 75 wr w.heap.size v rs
  rows : ∀ r ∈ rs, OwnOf 1 boolCells 4 wr w.heap.size r.v r.l
  apart : ∀ r ∈ rs, ∀ g, v.ownBlock = some g → r.v.ownBlock ≠ some g
  low : Below w.heap.size w wr
theorem GathB.below {w wr W : World} {v : Value} {rs : List BRow} (h : GathB w v rs wr) (hb : Below wr.heap.size wr W) : GathB w v rs W := ⟨own_below h.own hb, fun r hr => own_below (h.rows r hr) hb, h.apart, h.low.trans (hb.mono h.low.size)⟩
theorem GathB.made {w wr : World} (hb : Below w.heap.size w wr) : GathB w (.slice (some ⟨wr.heap.size, 0, none⟩) 0 0) [] (wr.alloc (.cells #[] 75)) := by
  have h := GathO.made (k := 1) (cs := BRow.cells) (t := 75) hb
  exact ⟨h.1, fun r hr => absurd hr (by simp), fun r hr => absurd hr (by simp), h.2⟩
theorem GathB.form {w wr : World} {v : Value} {rs : List BRow} (h : GathB w v rs wr) : ∃ A c, v = .slice A rs.length c := own_form h.own
/-- One row more: in a block of its own, new since W. -/
theorem GathB.next {w W W1 W2 : World} {v u : Value} {rs : List BRow} {s : List Bool} {g4 cap4 : Nat} (h : GathB w v rs W) (hb : Below W.heap.size W W1) (ho : OwnOf 1 boolCells 4 W1 W.heap.size u s)
    (hown : W2.ownsRow w.heap.size 75 1 (.slice (some ⟨g4, 0, none⟩) (rs.length + 1) cap4) (rs.length + 1) (rs.flatMap BRow.cells ++ BRow.cells ⟨u, s⟩)) (hgr : W1.grownBy W2 v.ownBlock) (hor : v.ownBlock = some g4 ∨ g4 = W1.heap.size) :
    GathB w (.slice (some ⟨g4, 0, none⟩) (rs.length + 1) cap4) (rs ++ [⟨u, s⟩]) W2 := by
  obtain ⟨o1, o2, o4, hl⟩ := h
  have hz := hl.size
  have hz1 := hb.size
  refine ⟨?_, fun r hr => ?_, fun r hr g hg hg' => ?_, (hl.trans (hb.mono hz)).grown hgr (by omega) (fun b e => (own_ge o1 e).1)⟩
  · simpa [OwnOf] using hown
  · rcases List.mem_append.1 hr with hr | hr
    · exact own_kept (own_below (o2 r hr) hb) hgr (fun b hv e => o4 r hr b e hv)
    · simp at hr
      subst hr
      exact own_lo (own_kept ho hgr (fun b hv e => by have := (own_ge o1 e).2; have := (own_ge ho hv).1; omega)) hz
  · simp [Value.ownBlock] at hg
    subst hg
    rcases List.mem_append.1 hr with hr | hr
    · rcases hor with e | e
      · exact o4 r hr g4 e hg'
      · have := (own_ge (o2 r hr) hg').2
        omega
    · simp at hr
      subst hr
      rcases hor with e | e
      · have := (own_ge o1 e).2
        have := (own_ge ho hg').1
        omega
      · have := (own_ge ho hg').2
        omega
theorem GathB.reads {w wr : World} {v : Value} {rs : List BRow} (h : GathB w v rs wr) (h1 : rs.length ≤ 1000000000) (h2 : ∀ r ∈ rs, r.l.length ≤ 1000000000) : SlRows wr v rs := ⟨own_sl browLen h.own h1, fun r hr => own_sl boolLen (h.rows r hr) (h2 r hr)⟩
theorem browAt {w : World} {rs : List BRow} {g o : Nat} (hc : ∀ i x, rs[i]? = some x → ∀ j u, (BRow.cells x)[j]? = some u → w.cell? ⟨g, o + i * 1 + j, none⟩ = some u) {i : Nat} {r : BRow} (hx : rs[i]? = some r) : w.cell? ⟨g, o + i, none⟩ = some r.v := by
  have h := hc i r hx 0 _ rfl
  simpa using h
theorem boolAt {w : World} {l : List Bool} {g o : Nat} (hc : ∀ i x, l[i]? = some x → ∀ j u, (boolCells x)[j]? = some u → w.cell? ⟨g, o + i * 1 + j, none⟩ = some u) {i : Nat} {x : Bool} (hx : l[i]? = some x) : w.cell? ⟨g, o + i, none⟩ = some (.bool x) := by
  have h := hc i x hx 0 _ rfl
  simpa using h
end Go.Proofs.Ytfofbnpgjdagkaa
namespace Go.Proofs.Ytfofbnpgjdagkaa
open Go.RowKit
/-- From w to w' only blocks from a up to b have changed, and new ones have come. -/
structure TouchR (w w' : World) (a b : Nat) : Prop where
  os : w'.os = w.os
  tape : w'.tape = w.tape
  output : w'.output = w.output
  size : w.heap.size ≤ w'.heap.size
  block : ∀ i, i < w.heap.size → ¬ (a ≤ i ∧ i < b) → w'.heap[i]? = w.heap[i]?
/-- The value's own block lies from a up to b. -/
def RangeV (v : Value) (a b : Nat) : Prop := ∀ g, v.ownBlock = some g → a ≤ g ∧ g < b
theorem own_range {α : Type} {k : Nat} {cs : α → List Value} {t : TypeId} {w : World} {base : Nat} {v : Value} {l : List α} (h : OwnOf k cs t w base v l) : RangeV v base w.heap.size := fun g hg => World.ownsRow.lt h g hg
theorem RangeV.apart {v u : Value} {a b c d : Nat} (h : RangeV v a b) (h' : RangeV u c d) (hd : b ≤ c ∨ d ≤ a) : ApartV v u := fun g hg hg' => by have := h g hg; have := h' g hg'; omega
theorem touch_grown {w w' : World} {v : Value} {a b : Nat} (h : w.grownBy w' v.ownBlock) (hr : RangeV v a b) : TouchR w w' a b :=
  ⟨h.os, h.tape, h.output, h.size, fun i hi hn => h.block i hi (fun e => hn (hr i e.symm))⟩
theorem TouchR.trans {w w1 w2 : World} {a b : Nat} (h : TouchR w w1 a b) (k : TouchR w1 w2 a b) : TouchR w w2 a b :=
  ⟨k.os.trans h.os, k.tape.trans h.tape, k.output.trans h.output, Nat.le_trans h.size k.size, fun i hi hn => (k.block i (Nat.lt_of_lt_of_le hi h.size) hn).trans (h.block i hi hn)⟩
theorem TouchR.cell {w w' : World} {a b : Nat} (h : TouchR w w' a b) {p : Addr} {v : Value} (hc : w.cell? p = some v) (hp : ¬ (a ≤ p.block ∧ p.block < b)) : w'.cell? p = some v := by
  have e := h.block p.block (World.block_lt_of_cell? w p hc) hp
  have : w'.cell? p = w.cell? p := by simp [World.cell?, e]
  rw [this]; exact hc
theorem TouchR.frozen {w w' : World} {a b : Nat} (h : TouchR w w' a b) {p : Addr} (hlt : p.block < w.heap.size) (hp : ¬ (a ≤ p.block ∧ p.block < b)) : w'.frozen? p = w.frozen? p := by
  have e := h.block p.block hlt hp
  simp [World.frozen?, e]
theorem TouchR.below {w0 w w' : World} {base a b : Nat} (hb : Below base w0 w) (h : TouchR w w' a b) (h0 : base ≤ w.heap.size) (ha : base ≤ a) : Below base w0 w' :=
  ⟨h.os.trans hb.os, h.tape.trans hb.tape, h.output.trans hb.output, Nat.le_trans hb.size h.size, fun i hi => (h.block i (by omega) (by omega)).trans (hb.block i hi)⟩
theorem SlOf.touch {α : Type} {k : Nat} {cs : α → List Value} {w w' : World} {v : Value} {l : List α} {a b c d : Nat} (h : SlOf k cs w v l) (ht : TouchR w w' a b) (hr : RangeV v c d) (hd : b ≤ c ∨ d ≤ a) : SlOf k cs w' v l := by
  refine ⟨h.1, ?_⟩
  rcases h.2 with ⟨rfl, A, n, rfl⟩ | ⟨g, o, n, rfl, hp, hcap, hc⟩
  · exact .inl ⟨rfl, A, n, rfl⟩
  · refine .inr ⟨g, o, n, rfl, hp, hcap, fun i x hx j u hu => ht.cell (hc i x hx j u hu) ?_⟩
    have := hr g rfl
    show ¬ (a ≤ g ∧ g < b)
    omega
theorem MarkedV.touch {w w' : World} {v : Value} {N : Nat} {mv : Nat → Value} {a b c d : Nat} (h : MarkedV w v N mv) (ht : TouchR w w' a b) (hr : RangeV v c d) (hd : b ≤ c ∨ d ≤ a) : MarkedV w' v N mv := by
  rcases h with h | ⟨g, o, len, n, rfl, hc⟩
  · exact .inl h
  · refine .inr ⟨g, o, len, n, rfl, fun j hj => ht.cell (hc j hj) ?_⟩
    have := hr g rfl
    show ¬ (a ≤ g ∧ g < b)
    omega
theorem FreeV.touch {w w' : World} {v : Value} {a b c d : Nat} (h : FreeV w v) (ht : TouchR w w' a b) (hr : RangeV v c d) (hd : b ≤ c ∨ d ≤ a) : FreeV w' v := fun g hg => by
  have := hr g hg
  refine ⟨fun j => (ht.frozen (p := ⟨g, j, none⟩) (h g hg).2 (by show ¬ (a ≤ g ∧ g < b); omega)).trans ((h g hg).1 j), Nat.lt_of_lt_of_le (h g hg).2 ht.size⟩
theorem Blk.touch {w w' : World} {a b p : Nat} {cs : Array Value} {t : TypeId} (h : Blk w p cs t) (ht : TouchR w w' a b) (hp : ¬ (a ≤ p ∧ p < b)) : Blk w' p cs t := (ht.block p h.lt hp).trans h
end Go.Proofs.Ytfofbnpgjdagkaa
namespace Go.Proofs.Ytfofbnpgjdagkaa
open Go.RowKit
set_option maxRecDepth 100000
set_option maxHeartbeats 1000000 in
theorem indexInt_any (v : Value) (l : List Int) (t : Int) (w : World) (h : SlInt w v l) :
    Calls Try.prog 69 #[v, .int .i64 t] w fun e w' => e = .returned (.int .i64 (firstI (fun x => t == x) l)) ∧ w = w' := by
  obtain ⟨hl, h⟩ := h
  rcases h with ⟨rfl, A, c, rfl⟩ | ⟨g, o, c, rfl, hp, hcap, hc⟩
  · go_enter Try.func69, Try.ntmps69
    go_wp2
    refine wp_loop_rounds 1 ?_
    rw [rounds_succ]
    go_wp2
    go_ret
    exact ⟨rfl, rfl⟩
  · have HC := Lib.hid hc
    clear hc
    go_enter Try.func69, Try.ntmps69
    go_wp2
    go_loop [8] (fun i => ∃ k : Nat, k ≤ l.length ∧ i = .int .i64 k ∧ Hid (NoOne (fun x => t == x) l k)) (fun i => l.length - (intOf i).toNat)
    case atStart => exact ⟨0, Nat.zero_le _, rfl, Lib.hid (NoOne.zero _ _)⟩
    case round =>
      obtain ⟨k, hk, rfl, hN⟩ := hrel
      by_cases hlt : k < l.length
      · obtain ⟨x, hx⟩ : ∃ x, l[k]? = some x := ⟨_, List.getElem?_eq_getElem hlt⟩
        have q0 := SlInt.cells HC.out k x hx
        have HX := Lib.hid hx
        clear hx
        cases he : (t == x) with
        | true =>
          have E := Lib.hid (firstI_at hN.out HX.out he)
          go_wp2
          go_ret
          exact ⟨ret_int E.out.symm, rfl⟩
        | false =>
          have N2 := Lib.hid (hN.out.next HX.out he)
          go_wp2
          go_round
          case rel => exact ⟨k + 1, by omega, by go_num, N2⟩
          case measure => simp [intOf]; omega
      · obtain rfl : k = l.length := by omega
        have E := Lib.hid (firstI_none hN.out)
        go_wp2
        go_ret
        exact ⟨ret_int E.out.symm, rfl⟩
theorem first_any (l : List Int) (t : Int) : decide (0 ≤ firstI (fun x => t == x) l) = l.any (· == t) := by
  unfold firstI
  cases h : l.findIdx? (fun x => t == x) with
  | none =>
    rw [List.findIdx?_eq_none_iff] at h
    rw [List.any_eq_false.2 (fun x hx => by have := h x hx; simp at this ⊢; exact fun e => this e.symm)]; rfl
  | some i =>
    rw [List.findIdx?_eq_some_iff_getElem] at h
    obtain ⟨hi, hj, _⟩ := h
    rw [List.any_eq_true.2 ⟨_, List.getElem_mem hi, by simp at hj ⊢; exact hj.symm⟩]
    exact decide_eq_true (show (0 : Int) ≤ (i : Int) by omega)
theorem contains_any (v : Value) (l : List Int) (t : Int) (w : World) (h : SlInt w v l) :
    Calls Try.prog 62 #[v, .int .i64 t] w fun e w' => e = .returned (.bool (l.any (· == t))) ∧ w = w' := by
  have HS := Lib.hid h
  have E := Lib.hid (first_any l t)
  obtain ⟨A, c, rfl⟩ := h.at
  clear h
  go_enter Try.func62, Try.ntmps62
  go_wp2_with fail
  refine (indexInt_any _ l t _ HS.out).mono ?_
  rintro e w2 ⟨rfl, rfl⟩
  go_wp2
  go_ret
  exact ⟨ret_bool E.out, rfl⟩
end Go.Proofs.Ytfofbnpgjdagkaa
namespace Go.Proofs.Ytfofbnpgjdagkaa
open Go.RowKit
set_option maxRecDepth 100000
theorem own_prefix {X X' : World} {b : Nat} {v v' : Value} {l m : List Int} {g : Nat} (h : OwnInt X b v l) (h' : OwnInt X b v' (l ++ m)) (hv : v.ownBlock = some g) (hv' : v'.ownBlock = some g) (k : OwnInt X' b v' (l ++ m)) : OwnInt X' b v l := by
  refine ⟨h.1, ?_⟩
  rcases h.2 with ⟨rfl, _⟩ | ⟨g1, c1, cur1, rfl, hb1, hg1, hn1, hm1, hs1, ht1⟩
  · simp [Value.ownBlock] at hv
  · rcases h'.2 with ⟨rfl, _⟩ | ⟨g2, c2, cur2, rfl, hb2, hg2, hn2, hm2, hs2, ht2⟩
    · simp [Value.ownBlock] at hv'
    · rcases k.2 with ⟨e, _⟩ | ⟨g3, c3, cur3, e, hb3, hg3, hn3, hm3, hs3, ht3⟩
      · cases e
      · injection e with e1 _ e3
        injection e1 with e1
        injection e1 with e1
        simp [Value.ownBlock] at hv hv'
        subst e1 e3 hv hv'
        rw [hg1] at hg2
        injection hg2 with hg2
        injection hg2 with hg2
        subst hg2
        have hc : c1 = c2 := by omega
        subst hc
        refine .inr ⟨g2, c1, cur3, rfl, hb1, hg3, hn1, hm1, hs3, ?_⟩
        have e4 : cur3.toList.take (l.length * 1) = (cur3.toList.take ((l ++ m).length * 1)).take (l.length * 1) := by
          rw [List.take_take]; congr 1; rw [List.length_append]; omega
        rw [e4, ht3, List.flatMap_append, List.take_append_of_le_length (by rw [flat_len intLen]; omega), List.take_of_length_le (by rw [flat_len intLen]; omega)]
end Go.Proofs.Ytfofbnpgjdagkaa
namespace Go.Proofs.Ytfofbnpgjdagkaa
open Go.ChangeShapes Go.WideShapes Go.ChangeAt Go.Deep Go.RowKit
set_option maxRecDepth 100000
variable {H : Type} {enc : TypeId × Value → H} {w : World}
theorem open_dutys_arg {r : Reach} {b0 : Nat} {v : Value} {d : DataW H} {ps : List MemPlace} (hval : Value.okWide Try.prog w r b0 40 v) (hd : DataW.Trod enc Try.prog w 0 (fun _ => true) true 40 v d ps) :
    ∃ A c l, v = .slice A l.length c ∧ l.length ≤ maxLen ∧ (l.length ≤ 1000000000 → SlDuty w (.slice A l.length c) l) ∧ ∀ d ∈ l, DutyD.wf d := by
  obtain ⟨A, len, cap, rfl⟩ := okWide_slice Try.underlying40 hval
  obtain ⟨fuel, hf⟩ := hd
  exact open_dutys hf
end Go.Proofs.Ytfofbnpgjdagkaa
namespace Go.Proofs.Ytfofbnpgjdagkaa
open Go.RowKit
set_option maxRecDepth 100000
theorem flat_int (l : List Int) : l.flatMap intCells = l.map (fun x => Value.int .i64 x) := by
  induction l with
  | nil => rfl
  | cons x l ih => simp [intCells, ih]
/-- What holds of drawn moves. -/
def MvDraw (w : World) (p : Nat) (v : Value) (l : List Int) (wr : World) : Prop := Cursor wr p ∧ w.grownBy wr (some p) ∧ OwnInt wr w.heap.size v l ∧ l.length = 64 ∧ (∀ x ∈ l, 0 ≤ x ∧ x ≤ 20) ∧ p < w.heap.size
theorem MvDraw.step {w wr w3 : World} {p : Nat} {v : Value} {l : List Int} (h : MvDraw w p v l wr) (hg : wr.grownBy w3 (some p)) (hc : Cursor w3 p) : MvDraw w p v l w3 := by
  obtain ⟨h1, h2, h3, h4, h5, h6⟩ := h
  exact ⟨hc, grown_trans h2 hg, own_kept h3 hg (fun b hv e => by have := (own_ge h3 hv).1; have := Option.some.inj e; omega), h4, h5, h6⟩
theorem MvDraw.put {w wr : World} {p g c : Nat} {l : List Int} (h : MvDraw w p (.slice (some ⟨g, 0, none⟩) 64 c) l wr) (k : Nat) (hk : k < 64) (u : Int) (h0 : 0 ≤ u) (h1 : u ≤ 20) :
    (∃ x, wr.cell? ⟨g, k, none⟩ = some (.int .i64 x)) ∧ wr.frozen? ⟨g, k, none⟩ = false ∧ MvDraw w p (.slice (some ⟨g, 0, none⟩) 64 c) (l.set k u) (wr.setCell ⟨g, k, none⟩ (.int .i64 u)) := by
  obtain ⟨hc, hgr, hown, hl, hall, hp⟩ := h
  have hge := own_ge hown (own_blk g 64 c)
  have hown' := hown
  unfold OwnInt OwnOf at hown'
  rw [hl] at hown'
  have hcell := World.ownsRow.cellAt hown' k (by omega)
  rw [flat_int] at hcell
  refine ⟨⟨l[k]'(by omega), ?_⟩, World.ownsRow.frozenAt hown' k, hc.set (by omega) _ _, grown_setNew hgr hge.1 _, ?_, by simp [hl], fun x hx => ?_, hp⟩
  · rw [hcell]; simp [show k < l.length by omega]
  · have hs := (World.ownsRow.stored hown' k (.int .i64 u)).1
    rw [flat_int] at hs
    unfold OwnInt OwnOf
    rw [flat_int, List.length_set, hl, List.map_set]
    exact hs
  · rcases List.mem_or_eq_of_mem_set hx with h | h
    · exact hall x h
    · rw [h]; exact ⟨h0, h1⟩
def DrawsMoves (p : Nat) (w : World) (e : Ending) (w' : World) : Prop := ∃ (g c : Nat) (l : List Int), e = .returned (.slice (some ⟨g, 0, none⟩) 64 c) ∧ MvDraw w p (.slice (some ⟨g, 0, none⟩) 64 c) l w'
theorem specStaying (w : World) : Calls Try.prog 36 #[] w fun e w' => e = .returned (.slice (some ⟨w.heap.size, 0, none⟩) 64 64) ∧ OwnInt w' w.heap.size (.slice (some ⟨w.heap.size, 0, none⟩) 64 64) (List.replicate 64 0) ∧ Below w.heap.size w w' := by
  have hmk : ∀ W : World, (Instr.makeSlice 23 (.int .i64 64) (.int .i64 64)).run Try.prog W = .ok (.slice (some ⟨W.heap.size, 0, none⟩) 64 64) (W.alloc (.cells (madeCells #[.int .i64 0] (64 * 1)) 3)) := make_ints 64 (by omega)
  go_enter Try.func36, Try.ntmps36
  go_wp2
  go_ret
  refine ⟨rfl, ?_, (Below.refl _ _).alloc (Nat.le_refl _) _⟩
  have h := World.ownsRow_lit (base := w.heap.size) (e := 3) (size := 1) w (madeCells #[.int .i64 0] (64 * 1)) 64 (Nat.le_refl _) (by unfold maxLen; omega) (by rw [size_madeCells])
  have e : (madeCells #[Value.int .i64 0] (64 * 1)).toList = (List.replicate 64 (0 : Int)).flatMap intCells := (made_flat #[Value.int .i64 0] 64).trans (by rw [List.flatMap_def, List.map_replicate]; rfl)
  unfold OwnInt OwnOf
  rw [← e, List.length_replicate]
  exact h
set_option maxHeartbeats 2000000 in
theorem l13Moves_any (p : Nat) (w : World) (hcur : Cursor w p) : Calls Try.prog 39 #[.pointer (some ⟨p, 0, none⟩)] w (DrawsMoves p w) := by
  have hp := hcur.lt
  have HC := Lib.hid hcur
  clear hcur
  go_enter Try.func39, Try.ntmps39
  go_wp2_with fail
  refine (specStaying _).mono ?_
  rintro e w1 ⟨rfl, ho, hb⟩
  have ST := Lib.hid (show MvDraw w p (.slice (some ⟨w.heap.size, 0, none⟩) 64 64) (List.replicate 64 0) w1 from ⟨HC.out.below hb, grown_of_below hb _, ho, by simp, fun x hx => by have := List.eq_of_mem_replicate hx; omega, hp⟩)
  clear ho hb HC
  go_wp2
  go_loopw [8] (fun i wr => ∃ (k : Nat) (l : List Int), k ≤ 64 ∧ i = .int .i64 k ∧ Hid (MvDraw w p (.slice (some ⟨w.heap.size, 0, none⟩) 64 64) l wr)) (fun i _ => 64 - (intOf i).toNat)
  case atStart => exact ⟨0, _, by omega, rfl, ST⟩
  case round =>
    obtain ⟨k, l, hk, rfl, hD⟩ := hrel
    by_cases hlt : k < 64
    · have hki : (k : Int) < 64 := by omega
      have hnext : IntKind.i64.wrap ((k : Int) + 1) = ((k + 1 : Nat) : Int) := by rw [IntKind.wrap_i64]; omega
      by_cases h9 : (k : Int) % 9 = 0
      · have hb9 : ((k : Int) % 9 != 0) = false := by simp [h9]
        go_wp2
        go_roundw
        case rel => exact ⟨k + 1, l, by omega, by rfl, hD⟩
        case measure => simp [intOf]; omega
      · have hb9 : ((k : Int) % 9 != 0) = true := by simp [h9]
        go_wp2_with fail
        refine (l01Below_any p 5 _ (by omega) (by omega) hD.out.1).mono ?_
        rintro e w3 ⟨x, rfl, x0, x1, hc, hg⟩
        have SD := Lib.hid (hD.out.step hg hc)
        obtain ⟨⟨y, c0⟩, f0, hn⟩ := SD.out.put k hlt (5 * x) (by omega) (by omega)
        have SN := Lib.hid hn
        have hw5 : IntKind.i64.wrap (5 * x) = 5 * x := by rw [IntKind.wrap_i64]; omega
        clear hc hg hn hD
        go_wp2
        go_roundw
        case rel => exact ⟨k + 1, _, by omega, by rfl, SN⟩
        case measure => simp [intOf]; omega
    · go_wp2
      go_ret
      exact ⟨_, _, l, rfl, hD.out⟩
end Go.Proofs.Ytfofbnpgjdagkaa
namespace Go.Proofs.Ytfofbnpgjdagkaa
open Go.RowKit
set_option maxRecDepth 100000
theorem implStayingMoves (w : World) : Calls Try.prog 19 #[] w (NewInt (List.replicate 64 0) w) := by
  have hmk : ∀ W : World, (Instr.makeSlice 23 (.int .i64 64) (.int .i64 64)).run Try.prog W = .ok (.slice (some ⟨W.heap.size, 0, none⟩) 64 64) (W.alloc (.cells (madeCells #[.int .i64 0] (64 * 1)) 3)) := make_ints 64 (by omega)
  go_enter Try.func19, Try.ntmps19
  go_wp2
  go_ret
  refine ⟨_, rfl, ?_, (Below.refl _ _).alloc (Nat.le_refl _) _⟩
  have h := World.ownsRow_lit (base := w.heap.size) (e := 3) (size := 1) w (madeCells #[.int .i64 0] (64 * 1)) 64 (Nat.le_refl _) (by unfold maxLen; omega) (by rw [size_madeCells])
  have e : (madeCells #[Value.int .i64 0] (64 * 1)).toList = (List.replicate 64 (0 : Int)).flatMap intCells := (made_flat #[Value.int .i64 0] 64).trans (by rw [List.flatMap_def, List.map_replicate]; rfl)
  unfold OwnOf
  rw [← e, List.length_replicate]
  exact h
end Go.Proofs.Ytfofbnpgjdagkaa
