
/- Lists of ints: the laws' helpers over them: contracts; how an argument is opened. -/
import Derived.Test.YtpglaffmmddcdaaOpen
import Derived.Test.YtpglaffmmddcdaaFlatV
import Derived.StillTailTactics
import Derived.BigQuiet
namespace Go.Proofs.Ytpglaffmmddcdaa
open Go.ChangeShapes Go.WideShapes Go.ChangeAt Go.Deep Go.RowKit
set_option maxRecDepth 100000

abbrev IntD := Int
def IntD.cells (x : IntD) : List Value := [.int .i64 x]
def intCells : Int → List Value := fun x => [.int .i64 x]
theorem intLen (x : Int) : (intCells x).length = 1 := rfl
theorem int_one (x : Int) : ∀ v ∈ intCells x, v.oneCell' = true := fun v hv => by simp [intCells] at hv; rw [hv]; rfl
def SlInt : World → Value → List Int → Prop := SlOf 1 intCells
def OwnInt : World → Nat → Value → List Int → Prop := OwnOf 1 intCells 3
def NewInt : List Int → World → Ending → World → Prop := NewOf 1 intCells 3
theorem SlInt.at {w : World} {v : Value} {l : List Int} (h : SlInt w v l) : ∃ A c, v = .slice A l.length c := SlOf.form h
theorem SlInt.below {w w' : World} {v : Value} {l : List Int} (h : SlInt w v l) (hb : Below w.heap.size w w') : SlInt w' v l := SlOf.below h hb
theorem OwnInt.sl {w : World} {base : Nat} {v : Value} {l : List Int} (h : OwnInt w base v l) (hl : l.length ≤ 1000000000) : SlInt w v l := own_sl intLen h hl
theorem SlInt.cells {w : World} {l : List Int} {g o : Nat} (hc : ∀ i x, l[i]? = some x → ∀ j u, (intCells x)[j]? = some u → w.cell? ⟨g, o + i * 1 + j, none⟩ = some u) (i : Nat) (x : Int) (hx : l[i]? = some x) :
    w.cell? ⟨g, o + i, none⟩ = some (.int .i64 x) := by
  have h := hc i x hx 0 _ rfl
  simpa using h
def zeroInt : List Value := [.int .i64 0]
theorem info_int : (Try.prog.info? 3).map (fun i => (i.zero, i.size, i.bytes)) = some (some (.int .i64 0), 1, 8) := by kernel_rfl
theorem info1_int : ∃ i0, Try.prog.info? 3 = some i0 ∧ i0.zero = some (.int .i64 0) ∧ i0.size = 1 ∧ i0.bytes = 8 := by
  have h := info_int
  cases hi : Try.prog.info? 3 with
  | none => rw [hi] at h; simp at h
  | some i0 => rw [hi] at h; simp at h; exact ⟨i0, rfl, h.1, h.2.1, h.2.2⟩
def bulkInt (_ : List Int) : Int := 0
theorem bulkInt_pos (l : List Int) : 0 ≤ bulkInt l := Int.le_refl _
/-- What the marking that begins with k writes into cell j. -/
def mvInt (k : Int) (j : Nat) : Value := .int .i64 (k + (j : Int))
section
variable {H : Type} {enc : TypeId × Value → H} {w : World} {base : Nat} {spare : Nat → Bool} {held : Bool}
def IntD.wf (x : IntD) : Prop := (Lit.int .i64 x).wf = true
theorem dec_int (n : Nat) (cs : List Value) (y : DataW H × List MemPlace) (h : DataW.trod enc Try.prog w base spare held n 3 cs = some y) : ∃ x : Int, cs = intCells x ∧ IntD.wf x := by
  obtain ⟨a, ha, _, wa⟩ := DataW.trod_int Try.underlying3 h
  exact ⟨a, ha, wa⟩
end
end Go.Proofs.Ytpglaffmmddcdaa
