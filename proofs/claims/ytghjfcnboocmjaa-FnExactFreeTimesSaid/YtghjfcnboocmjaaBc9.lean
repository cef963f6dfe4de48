
/- What ExactFreeTimes and BerthsLaw rests on, part 9: contracts and mathematics. -/
import Derived.Test.YtghjfcnboocmjaaBc8
import Derived.Test.YtghjfcnboocmjaaBc0
import Derived.Test.YtghjfcnboocmjaaBc3
import Derived.Test.YtghjfcnboocmjaaBc6
import Derived.Test.YtghjfcnboocmjaaBc7
import Derived.Test.YtghjfcnboocmjaaBc1
import Derived.Deep.AppendLies
namespace Go.Proofs.Ytghjfcnboocmjaa
set_option maxRecDepth 100000
@[reducible] def shipNm (s : ByteArray) (p : ShipD) : Bool := p.name.toList == s.toList
/-- The index of the first ship of a name, or -1. -/
def shipI (l : List ShipD) (s : ByteArray) : Int := firstI (shipNm s) l
def flAt (l : List ShipD) (k : Nat) : Bool := match l[k]? with | some x => shipB x && (shipI l x.name == (k : Int)) | none => true
def fleetB (l : List ShipD) : Bool := decide (l.length ≤ 6) && (List.range l.length).all (flAt l)
def FirstF (l : List ShipD) (k : Nat) : Prop := ∀ j, j < k → flAt l j = true
theorem FirstF.zero (l : List ShipD) : FirstF l 0 := fun j hj => absurd hj (by omega)
theorem FirstF.next {l : List ShipD} {k : Nat} (h : FirstF l k) (hk : flAt l k = true) : FirstF l (k + 1) := fun j hj => by
  by_cases e : j = k
  · subst e; exact hk
  · exact h j (by omega)
theorem flAt_at {l : List ShipD} {k : Nat} {x : ShipD} (hx : l[k]? = some x) : flAt l k = (shipB x && (shipI l x.name == (k : Int))) := by unfold flAt; rw [hx]
theorem fleetB_long {l : List ShipD} (h : 6 < l.length) : fleetB l = false := by unfold fleetB; rw [decide_eq_false (by omega)]; rfl
theorem fleetB_no {l : List ShipD} {k : Nat} (hk : k < l.length) (h : flAt l k = false) : fleetB l = false := by
  unfold fleetB
  rw [List.all_eq_false.2 ⟨k, List.mem_range.2 hk, by rw [h]; simp⟩, Bool.and_false]
theorem fleetB_mk {l : List ShipD} (h : l.length ≤ 6) (h' : FirstF l l.length) : fleetB l = true := by
  unfold fleetB
  rw [decide_eq_true h, List.all_eq_true.2 (fun j hj => h' j (List.mem_range.1 hj))]; rfl
theorem fleetB_true {l : List ShipD} (h : fleetB l = true) : l.length ≤ 6 ∧ FirstF l l.length := by
  unfold fleetB at h
  rw [Bool.and_eq_true, decide_eq_true_iff] at h
  exact ⟨h.1, fun j hj => List.all_eq_true.1 h.2 j (List.mem_range.2 hj)⟩
end Go.Proofs.Ytghjfcnboocmjaa
namespace Go.Proofs.Ytghjfcnboocmjaa
open Go.RowKit
set_option maxRecDepth 100000
variable {α : Type} {k : Nat} {cs : α → List Value} {t : TypeId}
theorem apart_symm {v u : Value} (h : ApartV v u) : ApartV u v := fun g hg hg' => h g hg' hg
/-- Lists of one's own, no two in one block, over what has come since wd. -/
structure LivO {α : Type} (k : Nat) (cs : α → List Value) (t : TypeId) (wd x : World) (L : List (Nat × Value × List α)) : Prop where
  own : ∀ p ∈ L, OwnOf k cs t x wd.heap.size p.2.1 p.2.2
  ap : ∀ p ∈ L, ∀ q ∈ L, p ≠ q → ApartV p.2.1 q.2.1
  low : Below wd.heap.size wd x
theorem LivO.nil (w : World) : LivO k cs t w w [] := ⟨fun p hp => absurd hp (by simp), fun p hp => absurd hp (by simp), Below.refl _ _⟩
theorem LivO.build {wd x : World} {L : List (Nat × Value × List α)} (h : LivO k cs t wd x L) (hk : ∀ y, (cs y).length = k) (τ : Nat) (l : List α) (hl : l.length ≤ 1000000) :
    LivO k cs t wd (x.alloc (.cells (l.flatMap cs).toArray t)) ((τ, .slice (some ⟨x.heap.size, 0, none⟩) l.length l.length, l) :: L) := by
  have hb := Joins.below_alloc1 x (.cells (l.flatMap cs).toArray t)
  refine ⟨fun p hp => ?_, fun p hp q hq hne => ?_, h.low.trans (hb.mono h.low.size)⟩
  · rcases List.mem_cons.1 hp with rfl | hp
    · have h1 := World.ownsRow_lit (base := wd.heap.size) (e := t) (size := k) x (l.flatMap cs).toArray l.length h.low.size (by unfold maxLen; omega) (by simp [flat_len hk])
      unfold OwnOf
      exact h1
    · exact own_below (h.own p hp) hb
  · have hfar : ∀ q ∈ L, ApartV (.slice (some ⟨x.heap.size, 0, none⟩) l.length l.length) q.2.1 := fun q hq g hg hg' => by
      simp [Value.ownBlock] at hg
      have := own_range (h.own q hq) g hg'
      omega
    rcases List.mem_cons.1 hp with rfl | hp
    · rcases List.mem_cons.1 hq with rfl | hq
      · exact absurd rfl hne
      · exact hfar q hq
    · rcases List.mem_cons.1 hq with rfl | hq
      · exact apart_symm (hfar p hp)
      · exact h.ap p hp q hq hne
/-- One of them has been appended to. -/
theorem LivO.app {wd x x' : World} {L L' : List (Nat × Value × List α)} (h : LivO k cs t wd x L) {τ : Nat} {v : Value} {l m : List α} (hv : (τ, v, l) ∈ L) (τ' : Nat) {g n cap : Nat}
    (hown : OwnOf k cs t x' wd.heap.size (.slice (some ⟨g, 0, none⟩) n cap) m) (hgr : x.grownBy x' v.ownBlock) (hor : v.ownBlock = some g ∨ g = x.heap.size) (hL : ∀ q ∈ L', q ∈ L ∧ q.1 ≠ τ) :
    LivO k cs t wd x' ((τ', .slice (some ⟨g, 0, none⟩) n cap, m) :: L') := by
  have hfar : ∀ q ∈ L', ApartV (.slice (some ⟨g, 0, none⟩) n cap) q.2.1 := fun q hq j hj hj' => by
    simp [Value.ownBlock] at hj
    subst hj
    rcases hor with e | e
    · exact h.ap _ hv q (hL q hq).1 (fun e' => (hL q hq).2 (by rw [← e'])) g e hj'
    · have := own_range (h.own q (hL q hq).1) g hj'
      omega
  refine ⟨fun p hp => ?_, fun p hp q hq hne => ?_, ?_⟩
  · rcases List.mem_cons.1 hp with rfl | hp
    · exact hown
    · exact own_keep (h.own p (hL p hp).1) (KeepX.grown (ex := fun i => v.ownBlock = some i) hgr (fun _ e => e)) (fun j hj e => h.ap _ hv p (hL p hp).1 (fun e' => (hL p hp).2 (by rw [← e'])) j e hj)
  · rcases List.mem_cons.1 hp with rfl | hp
    · rcases List.mem_cons.1 hq with rfl | hq
      · exact absurd rfl hne
      · exact hfar q hq
    · rcases List.mem_cons.1 hq with rfl | hq
      · exact apart_symm (hfar p hp)
      · exact h.ap p (hL p hp).1 q (hL q hq).1 hne
  · exact h.low.grown hgr h.low.size (fun j e => by have := own_range (h.own _ hv) j e; omega)
section
variable {P : Program} {ops : Array Oper} {o : Oper} {a : Act} {K : Act → World → Prop} {Q : Exit → Act → World → Prop} {E : Prop}
/-- A step that appends a list (which reads so) to one of them. -/
theorem step_livO {wd x : World} {L L' : List (Nat × Value × List α)} {tl : TypeId} {i0 : TypeInfo} {z : Value} {bytes : Nat} (h : LivO k cs t wd x L) (hk : ∀ y, (cs y).length = k) (h1 : ∀ y, ∀ u ∈ cs y, u.oneCell' = true) {τ : Nat} (τ' : Nat) {v u : Value} {l m : List α} (hgd : o.guard = none) (s r : Operand)
    (ho : o.op = .call { callee := .builtin .append, args := #[s, r], argTypes := #[tl, tl] }) (hs : a.eval s = v) (hr : a.eval r = u)
    (ht : P.underlying tl = some (.slice t)) (hi : P.info? t = some i0) (hz : i0.zero = some z) (hsize : i0.size = k) (hby : i0.bytes = bytes) (hzs : z.cells.size = k) (hsz : 0 < k) (hbb : bytes ≤ 1000000)
    (hv : (τ, v, l) ∈ L) (hu : SlOf k cs x u m) (hb : l.length + m.length ≤ 10000000)
    (hL : ∀ q ∈ L', q ∈ L ∧ q.1 ≠ τ) (hK : ∀ v' x', LivO k cs t wd x' ((τ', v', l ++ m) :: L') → K (a.put o.dst v') x') :
    if Region.wanted o (yielded ops a.tmps) = true then Oper.wp P o a x K Q else E := by
  have ho1 := h.own _ hv
  obtain ⟨A, c, e⟩ := own_form ho1
  simp only at e
  subst e
  rcases hu.2 with ⟨rfl, B, c', rfl⟩ | ⟨g, of, c', rfl, hp, hcap, hc⟩
  · have hlc : l.length ≤ c := by
      rcases ho1.2 with ⟨e, h0⟩ | ⟨g, cap, cur, e, _, _, hnc, _⟩
      · injection e with _ e2 _; omega
      · injection e with _ _ e3; omega
    refine step_append_none x hgd s r tl ho t i0 ht hi A l.length c hs hlc B c' hr ?_
    refine hK _ x ?_
    rw [List.append_nil]
    refine ⟨fun p hp => ?_, fun p hp q hq hne => ?_, h.low⟩
    · rcases List.mem_cons.1 hp with rfl | hp
      · exact ho1
      · exact h.own p (hL p hp).1
    · rcases List.mem_cons.1 hp with rfl | hp
      · rcases List.mem_cons.1 hq with rfl | hq
        · exact absurd rfl hne
        · exact h.ap _ hv q (hL q hq).1 (fun e' => (hL q hq).2 (by rw [← e']))
      · rcases List.mem_cons.1 hq with rfl | hq
        · exact h.ap p (hL p hp).1 (τ, .slice A l.length c, l) hv (fun e' => (hL p hp).2 (by rw [e']))
        · exact h.ap p (hL p hp).1 q (hL q hq).1 hne
  · have hsrc : ∀ j w', (m.flatMap cs)[j]? = some w' → x.cell? ((⟨g, of, none⟩ : Addr).add j) = some w' := fun j w' hj => by
      have hjl : j < m.length * k := by have := (List.getElem?_eq_some_iff.1 hj).1; rwa [flat_len hk] at this
      have hdiv : j / k < m.length := Nat.div_lt_of_lt_mul (by rw [Nat.mul_comm]; exact hjl)
      obtain ⟨y, hy⟩ : ∃ y, m[j / k]? = some y := ⟨_, List.getElem?_eq_getElem hdiv⟩
      have hmod : j % k < (cs y).length := by rw [hk]; exact Nat.mod_lt _ hsz
      obtain ⟨u', hu'⟩ : ∃ u', (cs y)[j % k]? = some u' := ⟨_, List.getElem?_eq_getElem hmod⟩
      have e1 := flat_at hk m (j / k) y hy (j % k) u' hu'
      have ej : j / k * k + j % k = j := by rw [Nat.mul_comm]; exact Nat.div_add_mod j k
      rw [ej, hj] at e1
      injection e1 with e1
      subst e1
      have e2 := hc (j / k) y hy (j % k) w' hu'
      have eo : of + j / k * k + j % k = of + j := by omega
      rw [eo] at e2
      rw [Addr.add_lit]
      exact e2
    refine step_append_lies x hgd s r tl ho wd.heap.size t i0 z k bytes ht hi hz hsize hby hzs hsz (.slice A l.length c) l.length (l.flatMap cs) hs ho1 ⟨g, of, none⟩ m.length c' (m.flatMap cs) hr (flat_len hk m) hsrc (fun y hy => ?_) hp (by unfold maxLen; omega) ?_ h.low.size _ rfl ?_
    · obtain ⟨q, _, hq⟩ := List.mem_flatMap.1 hy
      exact h1 q y hq
    · have := Nat.mul_le_mul hb hbb; omega
    · intro g4 cap4 x4 hown hgr hor _
      refine hK _ x4 (h.app hv τ' (m := l ++ m) ?_ hgr hor hL)
      unfold OwnOf
      rw [List.length_append, List.flatMap_append]
      exact hown
end
theorem wp_of_stepO {P : Program} {ops : Array Oper} {o : Oper} {a : Act} {w : World} {K : Act → World → Prop} {Q : Exit → Act → World → Prop} (hgd : o.guard = none)
    (h : if Region.wanted o (yielded ops a.tmps) = true then Oper.wp P o a w K Q else False) : Oper.wp P o a w K Q := by
  have hw : Region.wanted o (yielded ops a.tmps) = true := by simp [Region.wanted, hgd]
  rw [if_pos hw] at h
  exact h
end Go.Proofs.Ytghjfcnboocmjaa
namespace Go.Proofs.Ytghjfcnboocmjaa
open Go.RowKit
set_option maxRecDepth 100000
def atB (t : Int) (x : WindowD) : Bool := inB t x.fr x.tt
def hasB (l : List WindowD) (t : Int) : Bool := l.any (atB t)
end Go.Proofs.Ytghjfcnboocmjaa
namespace Go.Proofs.Ytghjfcnboocmjaa
open Go.RowKit
set_option maxRecDepth 100000
theorem window_one (x : WindowD) : ∀ v ∈ x.cells, v.oneCell' = true := fun v hv => by simp at hv; rcases hv with rfl | rfl <;> rfl
/-- The value v is a list of windows over memory that is new since w; what w held is as it was. -/
def GathW (w : World) (v : Value) (acc : List WindowD) (wr : World) : Prop := OwnWindow wr w.heap.size v acc ∧ Below w.heap.size w wr
theorem GathW.size {w wr : World} {v : Value} {acc : List WindowD} (h : GathW w v acc wr) : w.heap.size ≤ wr.heap.size := h.2.size
theorem GathW.empty {w wr : World} (hb : Below w.heap.size w wr) : GathW w (.slice none 0 0) [] wr := ⟨⟨by simp, .inl ⟨rfl, rfl⟩⟩, hb⟩
/-- An empty list over a new block of no cells. -/
theorem GathW.made {w wr : World} (hb : Below w.heap.size w wr) : GathW w (.slice (some ⟨wr.heap.size, 0, none⟩) 0 0) [] (wr.alloc (.cells #[] 86)) :=
  ⟨⟨by simp, .inr ⟨wr.heap.size, 0, #[], rfl, hb.size, heap_alloc_new wr _, Nat.le_refl _, by omega, by simp, by simp⟩⟩, hb.alloc hb.size _⟩
theorem GathW.below {w wr W : World} {v : Value} {acc : List WindowD} (h : GathW w v acc wr) (hb : Below wr.heap.size wr W) : GathW w v acc W :=
  ⟨own_below h.1 hb, h.2.trans (hb.mono h.size)⟩
theorem GathW.next {w W w4 : World} {v : Value} {acc : List WindowD} {x : WindowD} {g4 cap4 : Nat} (h : GathW w v acc W)
    (hown : w4.ownsRow w.heap.size 86 2 (.slice (some ⟨g4, 0, none⟩) (acc.length + 1) cap4) (acc.length + 1) (acc.flatMap WindowD.cells ++ x.cells)) (hgr : W.grownBy w4 v.ownBlock) :
    GathW w (.slice (some ⟨g4, 0, none⟩) (acc.length + 1) cap4) (acc ++ [x]) w4 := by
  refine ⟨?_, h.2.grown hgr h.size (fun k hk => (World.ownsRow.lt h.1 k hk).1)⟩
  simpa [OwnWindow, OwnOf] using hown
theorem GathW.new {w wr : World} {v : Value} {acc R : List WindowD} (h : GathW w v acc wr) (e : R = acc) : NewWindow R w (.returned v) wr := by
  subst e
  exact ⟨v, rfl, h.1, h.2⟩
theorem GathW.form {w wr : World} {v : Value} {acc : List WindowD} (h : GathW w v acc wr) : ∃ A c, v = .slice A acc.length c := own_form h.1
theorem NewWindow.empty {w w' : World} {R : List WindowD} (hb : Below w.heap.size w w') (e : R = []) : NewWindow R w (.returned (.slice none 0 0)) w' := (GathW.empty hb).new e
end Go.Proofs.Ytghjfcnboocmjaa
namespace Go.Proofs.Ytghjfcnboocmjaa
open Go.RowKit
set_option maxRecDepth 100000
def sumW (l : List WindowD) : Int := l.foldl (fun s x => s + (x.tt - x.fr + 1)) 0
def countI (l : List WindowD) : Int := if winB l then sumW l else -1
theorem sumW_snoc (l : List WindowD) (x : WindowD) : sumW (l ++ [x]) = sumW l + (x.tt - x.fr + 1) := by unfold sumW; simp
theorem sumW_take {l : List WindowD} (h : FirstW l l.length) : ∀ k, k ≤ l.length → 0 ≤ sumW (l.take k) ∧ sumW (l.take k) ≤ 2881 * (k : Int) := by
  intro k
  induction k with
  | zero => intro _; simp [sumW]
  | succ k ih =>
    intro hk
    obtain ⟨x, hx⟩ : ∃ x, l[k]? = some x := ⟨_, List.getElem?_eq_getElem (by omega)⟩
    have t := h.time (show k < l.length by omega) hx
    have := ih (by omega)
    rw [take_snoc' l k x hx, sumW_snoc]
    omega
theorem countI_bad {l : List WindowD} (h : winB l = false) : countI l = -1 := by unfold countI; rw [h]; rfl
theorem countI_ok {l : List WindowD} (h : winB l = true) : countI l = sumW (l.take l.length) := by unfold countI; rw [h, List.take_length]; rfl
set_option maxHeartbeats 4000000 in
theorem implCountMinutes (v : Value) (l : List WindowD) (w : World) (h : SlWindow w v l) :
    Calls Try.prog 15 #[v] w fun e w' => e = .returned (.int .i64 (countI l)) ∧ Below w.heap.size w w' := by
  have H := Lib.hid h
  cases hok : winB l with
  | false =>
    have E := Lib.hid (countI_bad (l := l) hok)
    have HOK := Lib.hid hok
    obtain ⟨A, c, rfl⟩ := h.at
    clear hok h
    go_enter Try.func15, Try.ntmps15
    go_wp2_with fail
    refine (implWindowsOk _ l _ H.out).mono ?_
    rw [HOK.out]
    rintro e w1 ⟨rfl, hb1⟩
    have B1 := Lib.hid hb1
    clear hb1
    go_wp2
    go_ret
    exact ⟨ret_int E.out.symm, B1.out⟩
  | true =>
    have HF := Lib.hid (winB_true hok)
    have HOK := Lib.hid hok
    clear hok
    obtain ⟨hl, h⟩ := h
    rcases h with ⟨rfl, A, c, rfl⟩ | ⟨g, o, c, rfl, hp, hcap, hc⟩
    · have E := Lib.hid (countI_ok (l := []) HOK.out)
      go_enter Try.func15, Try.ntmps15
      go_wp2_with fail
      refine (implWindowsOk _ [] _ H.out).mono ?_
      rw [HOK.out]
      rintro e w1 ⟨rfl, hb1⟩
      have B1 := Lib.hid hb1
      clear hb1
      go_wp2
      refine wp_loop_rounds 1 ?_
      rw [rounds_succ]
      go_wp2
      go_ret
      exact ⟨ret_int E.out.symm, B1.out⟩
    · have HC := Lib.hid hc
      clear hc
      go_enter Try.func15, Try.ntmps15
      go_wp2_with fail
      refine (implWindowsOk _ l _ H.out).mono ?_
      rw [HOK.out]
      rintro e w1 ⟨rfl, hb1⟩
      have B1 := Lib.hid hb1
      have hz1 := hb1.size
      clear hb1
      go_wp2
      go_loopw [3, 11] (fun s i wr => ∃ k : Nat, k ≤ l.length ∧ i = .int .i64 k ∧ s = .int .i64 (sumW (l.take k)) ∧ Hid (Below w.heap.size w wr) ∧ w.heap.size ≤ wr.heap.size) (fun _ i _ => l.length - (intOf i).toNat)
      case atStart => exact ⟨0, Nat.zero_le _, rfl, rfl, B1, hz1⟩
      case round =>
        obtain ⟨k, hk, rfl, rfl, hb', hsz⟩ := hrel
        by_cases hlt : k < l.length
        rotate_left
        · obtain rfl : k = l.length := by omega
          have E := Lib.hid (countI_ok (l := l) HOK.out)
          go_wp2
          go_ret
          exact ⟨ret_int E.out.symm, hb'.out⟩
        · obtain ⟨x, hx⟩ : ∃ x, l[k]? = some x := ⟨_, List.getElem?_eq_getElem hlt⟩
          obtain ⟨p0, p1⟩ := SlWindow.cells HC.out k x hx
          have hg : g < w.heap.size := World.block_lt_of_cell? w ⟨g, o + k * 2, none⟩ p0
          have a0 := (hb'.out.cell (p := ⟨g, o + k * 2, none⟩) hg).trans p0
          have a1 := (hb'.out.cell (p := ⟨g, o + k * 2 + 1, none⟩) hg).trans p1
          have HX := Lib.hid hx
          obtain ⟨t0, t1, t2⟩ := HF.out.time hlt hx
          have hgr : g < wr.heap.size := by omega
          clear p0 p1 hx
          obtain ⟨s0, s1⟩ := sumW_take HF.out k hk
          have HS := Lib.hid ((congrArg sumW (take_snoc' l k x HX.out)).trans (sumW_snoc (l.take k) x))
          go_wp2
          go_roundw
          case rel =>
            refine ⟨k + 1, by omega, by go_num, ?_, Lib.hid ?_, ?_⟩
            · first | (rw [HS.out]; done) | (rw [HS.out]; congr 1; omega)
            · repeat (first | exact hb'.out | refine below_drewN ?_ _ | refine Below.drew ?_ | refine Below.setCell ?_ (by first | omega | (simp <;> omega)) _ | refine Below.alloc ?_ (by first | omega | (simp <;> omega)) _)
            · simp <;> omega
          case measure => simp [intOf]; omega
end Go.Proofs.Ytghjfcnboocmjaa
