
/- Chamber by value and in lists: the laws' helpers over it: contracts; how an argument is opened. -/
import Derived.Test.YtlddampjbmklkaaMarks
import Derived.Test.YtlddampjbmklkaaOpen
import Derived.Test.YtlddampjbmklkaaFlatV
import Derived.StillTailTactics
namespace Go.Proofs.Ytlddampjbmklkaa
open Go.ChangeShapes Go.WideShapes Go.ChangeAt Go.Deep Go.RowKit
set_option maxRecDepth 100000

structure ChamberD where
  length : Int
  lanes : Int
  minutes : Int
@[reducible] def ChamberD.val (d : ChamberD) : Value := .agg #[.int .i64 d.length, .int .i64 d.lanes, .int .i64 d.minutes]
@[reducible] def ChamberD.cells (d : ChamberD) : List Value := [.int .i64 d.length, .int .i64 d.lanes, .int .i64 d.minutes]
theorem chamberLen (d : ChamberD) : d.cells.length = 3 := rfl
theorem chamber_one (x : ChamberD) : ∀ v ∈ x.cells, v.oneCell' = true := fun v hv => by simp at hv; rcases hv with rfl | rfl | rfl <;> rfl
def SlChamber : World → Value → List ChamberD → Prop := SlOf 3 ChamberD.cells
def OwnChamber : World → Nat → Value → List ChamberD → Prop := OwnOf 3 ChamberD.cells 24
def NewChamber : List ChamberD → World → Ending → World → Prop := NewOf 3 ChamberD.cells 24
theorem SlChamber.at {w : World} {v : Value} {l : List ChamberD} (h : SlChamber w v l) : ∃ A c, v = .slice A l.length c := SlOf.form h
theorem SlChamber.below {w w' : World} {v : Value} {l : List ChamberD} (h : SlChamber w v l) (hb : Below w.heap.size w w') : SlChamber w' v l := SlOf.below h hb
theorem OwnChamber.sl {w : World} {base : Nat} {v : Value} {l : List ChamberD} (h : OwnChamber w base v l) (hl : l.length ≤ 1000000000) : SlChamber w v l := own_sl chamberLen h hl
theorem SlChamber.cells {w : World} {l : List ChamberD} {g o : Nat} (hc : ∀ i x, l[i]? = some x → ∀ j u, (ChamberD.cells x)[j]? = some u → w.cell? ⟨g, o + i * 3 + j, none⟩ = some u) (i : Nat) (x : ChamberD) (hx : l[i]? = some x) :
    w.cell? ⟨g, o + i * 3, none⟩ = some (.int .i64 x.length) ∧ w.cell? ⟨g, o + i * 3 + 1, none⟩ = some (.int .i64 x.lanes) ∧ w.cell? ⟨g, o + i * 3 + 2, none⟩ = some (.int .i64 x.minutes) :=
  ⟨hc i x hx 0 _ rfl, hc i x hx 1 _ rfl, hc i x hx 2 _ rfl⟩
def zeroChamber : List Value := [.int .i64 0, .int .i64 0, .int .i64 0]
theorem info_chamber : (Try.prog.info? 24).map (fun i => (i.zero, i.size, i.bytes)) = some (some (.agg #[.int .i64 0, .int .i64 0, .int .i64 0]), 3, 24) := by kernel_rfl
theorem toChamber_any (length : Int) (lanes : Int) (minutes : Int) (w : World) : Calls Try.prog 21 #[.agg #[.int .i64 length, .int .i64 lanes, .int .i64 minutes]] w fun e w' => e = .returned (.agg #[.int .i64 length, .int .i64 lanes, .int .i64 minutes]) ∧ Below w.heap.size w w' := by
  go_enter Try.func21, Try.ntmps21
  go_wp2
  refine bodyPost_ret (v := .agg #[.int .i64 length, .int .i64 lanes, .int .i64 minutes]) (by simp [results, Try.results21, go_sem]) rfl ⟨rfl, ?_⟩
  repeat (first | exact Below.refl _ _ | refine Below.setCell ?_ (by simp <;> omega) _ | refine Below.alloc ?_ (by simp <;> omega) _)

def bulkChamber (_ : List ChamberD) : Int := 0
theorem bulkChamber_pos (l : List ChamberD) : 0 ≤ bulkChamber l := Int.le_refl _

/-- What the marking that begins with k writes into cell j. -/
def mvChamber (k : Int) (j : Nat) : Value := if j % 3 = 0 then .int .i64 (k + (j : Int)) else if j % 3 = 1 then .int .i64 (k + (j : Int)) else .int .i64 (k + (j : Int))
theorem mvChamber_0 (k : Int) (j : Nat) : mvChamber k (j * 3) = .int .i64 (k + (j : Int) * 3) := by
  unfold mvChamber
  rw [if_pos (by omega), show k + ((j * 3 : Nat) : Int) = k + (j : Int) * 3 by omega]
theorem mvChamber_1 (k : Int) (j : Nat) : mvChamber k (j * 3 + 1) = .int .i64 (k + (j : Int) * 3 + 1) := by
  unfold mvChamber
  rw [if_neg (by omega), if_pos (by omega), show k + ((j * 3 + 1 : Nat) : Int) = k + (j : Int) * 3 + 1 by omega]
theorem mvChamber_2 (k : Int) (j : Nat) : mvChamber k (j * 3 + 2) = .int .i64 (k + (j : Int) * 3 + 2) := by
  unfold mvChamber
  rw [if_neg (by omega), if_neg (by omega), show k + ((j * 3 + 2 : Nat) : Int) = k + (j : Int) * 3 + 2 by omega]
section
variable {H : Type} {enc : TypeId × Value → H} {w : World} {base : Nat} {spare : Nat → Bool} {held : Bool}
def ChamberD.wf (d : ChamberD) : Prop := (Lit.int .i64 d.length).wf = true ∧ (Lit.int .i64 d.lanes).wf = true ∧ (Lit.int .i64 d.minutes).wf = true

theorem dec_chamber (n : Nat) (cs : List Value) (y : DataW H × List MemPlace) (h : DataW.trod enc Try.prog w base spare held n 43 cs = some y) : ∃ d : ChamberD, cs = d.cells ∧ d.wf := by
  obtain ⟨hl, hf⟩ := struct_cells Try.underlying43 (by kernel_rfl) (by kernel_rfl) h
  obtain ⟨v0, n0, y0, e0, h0⟩ := hf 0 _ rfl
  obtain ⟨v1, n1, y1, e1, h1⟩ := hf 1 _ rfl
  obtain ⟨v2, n2, y2, e2, h2⟩ := hf 2 _ rfl
  obtain ⟨a0, ha0, _, wa0⟩ := DataW.trod_int Try.underlying3 h0
  obtain ⟨a1, ha1, _, wa1⟩ := DataW.trod_int Try.underlying3 h1
  obtain ⟨a2, ha2, _, wa2⟩ := DataW.trod_int Try.underlying3 h2
  simp only [List.cons.injEq, and_true] at ha0 ha1 ha2
  subst ha0 ha1 ha2
  refine ⟨⟨a0, a1, a2⟩, ?_, wa0, wa1, wa2⟩
  match cs, hl with
  | [c0, c1, c2], _ =>
    simp at e0 e1 e2
    subst e0 e1 e2
    rfl

theorem open_chamber_arg {r : Reach} {b0 : Nat} {v : Value} {d : DataW H} {ps : List MemPlace} (hval : Value.okWide Try.prog w r b0 43 v) (hd : DataW.Trod enc Try.prog w 0 (fun _ => true) true 43 v d ps) :
    ∃ p : ChamberD, v = p.val ∧ p.wf := by
  obtain ⟨cs, rfl, hsz⟩ := okWide_struct Try.underlying43 hval
  obtain ⟨fuel, hf⟩ := hd
  obtain ⟨p, hp, hw⟩ := dec_chamber _ _ _ hf
  refine ⟨p, ?_, hw⟩
  obtain ⟨l⟩ := cs
  simp [Value.cells] at hp
  rw [hp]
end

end Go.Proofs.Ytlddampjbmklkaa
