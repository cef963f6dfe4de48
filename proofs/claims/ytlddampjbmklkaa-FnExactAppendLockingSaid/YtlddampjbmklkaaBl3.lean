
/- What ExactLockPlanOk and ExactAppendLocking rests on, part 3: contracts and mathematics. -/
import Derived.Test.YtlddampjbmklkaaBl1
import Derived.StillTailTactics
namespace Go.Proofs.Ytlddampjbmklkaa
open Go.RowKit
/-- Two slices in different blocks. -/
def ApartV (v u : Value) : Prop := ∀ g, v.ownBlock = some g → u.ownBlock ≠ some g
theorem ApartV.ne {v u : Value} (h : ApartV v u) : (u.ownBlock = none ∨ u.ownBlock ≠ v.ownBlock) ∧ (v.ownBlock = none ∨ v.ownBlock ≠ u.ownBlock) := by
  cases hv : v.ownBlock with
  | none => exact ⟨by cases hu : u.ownBlock with | none => exact .inl rfl | some g => exact .inr (by simp), .inl rfl⟩
  | some g => exact ⟨.inr (h g hv), .inr (fun e => h g hv e.symm)⟩
theorem cell_onV {a b : World} {p : Addr} {v : Value} (h : a.cell? p = some v) (hb : Below a.heap.size a b) : b.cell? p = some v := (hb.cell (World.block_lt_of_cell? a _ h)).trans h
/-- A slice whose block nothing has frozen. -/
def FreeV (w : World) (v : Value) : Prop := ∀ g, v.ownBlock = some g → (∀ j, w.frozen? ⟨g, j, none⟩ = false) ∧ g < w.heap.size
theorem FreeV.below {w w' : World} {v : Value} (h : FreeV w v) (hb : Below w.heap.size w w') : FreeV w' v := fun g hg =>
  ⟨fun j => (hb.frozen (p := ⟨g, j, none⟩) (h g hg).2).trans ((h g hg).1 j), Nat.lt_of_lt_of_le (h g hg).2 hb.size⟩
theorem FreeV.grown {w w' : World} {v : Value} {row : Option Nat} (h : FreeV w v) (hg : w.grownBy w' row) (hne : v.ownBlock = none ∨ v.ownBlock ≠ row) : FreeV w' v := fun g hgv => by
  have e := hg.block g (h g hgv).2 (fun e => by
    rcases hne with hn | hn
    · rw [hgv] at hn; cases hn
    · exact hn (hgv.trans e))
  refine ⟨fun j => ?_, Nat.lt_of_lt_of_le (h g hgv).2 hg.size⟩
  have := (h g hgv).1 j
  simpa [World.frozen?, e] using this
theorem own_freeV {α : Type} {k : Nat} {cs : α → List Value} {t : TypeId} {w : World} {base : Nat} {v : Value} {l : List α} (h : OwnOf k cs t w base v l) : FreeV w v := by
  intro g hg
  rcases Joins.ownsRow_forms h with ⟨rfl, _⟩ | ⟨g', cap, rfl⟩
  · simp [Value.ownBlock] at hg
  · have e : g' = g := by simpa [Value.ownBlock] using hg
    subst e
    exact ⟨fun j => World.ownsRow.frozenAt h _, (World.ownsRow.lt h g' hg).2⟩
end Go.Proofs.Ytlddampjbmklkaa
namespace Go.Proofs.Ytlddampjbmklkaa
open Go.ChangeShapes Go.WideShapes Go.ChangeAt Go.Deep Go.RowKit
set_option maxRecDepth 100000
structure ChamberD where
  length : Int
  lanes : Int
  minutes : Int
@[reducible] def ChamberD.val (d : ChamberD) : Value := .agg #[.int .i64 d.length, .int .i64 d.lanes, .int .i64 d.minutes]
@[reducible] def ChamberD.cells (d : ChamberD) : List Value := [.int .i64 d.length, .int .i64 d.lanes, .int .i64 d.minutes]
theorem chamberLen (d : ChamberD) : d.cells.length = 3 := rfl
theorem toChamber_any (length : Int) (lanes : Int) (minutes : Int) (w : World) : Calls Try.prog 21 #[.agg #[.int .i64 length, .int .i64 lanes, .int .i64 minutes]] w fun e w' => e = .returned (.agg #[.int .i64 length, .int .i64 lanes, .int .i64 minutes]) ∧ Below w.heap.size w w' := by
  go_enter Try.func21, Try.ntmps21
  go_wp2
  refine bodyPost_ret (v := .agg #[.int .i64 length, .int .i64 lanes, .int .i64 minutes]) (by simp [results, Try.results21, go_sem]) rfl ⟨rfl, ?_⟩
  repeat (first | exact Below.refl _ _ | refine Below.setCell ?_ (by simp <;> omega) _ | refine Below.alloc ?_ (by simp <;> omega) _)
section
variable {H : Type} {enc : TypeId × Value → H} {w : World} {base : Nat} {spare : Nat → Bool} {held : Bool}
def ChamberD.wf (d : ChamberD) : Prop := (Lit.int .i64 d.length).wf = true ∧ (Lit.int .i64 d.lanes).wf = true ∧ (Lit.int .i64 d.minutes).wf = true
theorem dec_chamber (n : Nat) (cs : List Value) (y : DataW H × List MemPlace) (h : DataW.trod enc Try.prog w base spare held n 43 cs = some y) : ∃ d : ChamberD, cs = d.cells ∧ d.wf := by
  obtain ⟨hl, hf⟩ := struct_cells Try.underlying43 (by kernel_rfl) (by kernel_rfl) h
  obtain ⟨v0, n0, y0, e0, h0⟩ := hf 0 _ rfl
  obtain ⟨v1, n1, y1, e1, h1⟩ := hf 1 _ rfl
  obtain ⟨v2, n2, y2, e2, h2⟩ := hf 2 _ rfl
  obtain ⟨a0, ha0, _, wa0⟩ := DataW.trod_int Try.underlying3 h0
  obtain ⟨a1, ha1, _, wa1⟩ := DataW.trod_int Try.underlying3 h1
  obtain ⟨a2, ha2, _, wa2⟩ := DataW.trod_int Try.underlying3 h2
  simp only [List.cons.injEq, and_true] at ha0 ha1 ha2
  subst ha0 ha1 ha2
  refine ⟨⟨a0, a1, a2⟩, ?_, wa0, wa1, wa2⟩
  match cs, hl with
  | [c0, c1, c2], _ =>
    simp at e0 e1 e2
    subst e0 e1 e2
    rfl
theorem open_chamber_arg {r : Reach} {b0 : Nat} {v : Value} {d : DataW H} {ps : List MemPlace} (hval : Value.okWide Try.prog w r b0 43 v) (hd : DataW.Trod enc Try.prog w 0 (fun _ => true) true 43 v d ps) :
    ∃ p : ChamberD, v = p.val ∧ p.wf := by
  obtain ⟨cs, rfl, hsz⟩ := okWide_struct Try.underlying43 hval
  obtain ⟨fuel, hf⟩ := hd
  obtain ⟨p, hp, hw⟩ := dec_chamber _ _ _ hf
  refine ⟨p, ?_, hw⟩
  obtain ⟨l⟩ := cs
  simp [Value.cells] at hp
  rw [hp]
end
end Go.Proofs.Ytlddampjbmklkaa
