
/- Ship by value and in lists: the laws' helpers over it: contracts; how an argument is opened. -/
import Derived.Test.YtpglaffmmddcdaaMarks
import Derived.Test.YtpglaffmmddcdaaOpen
import Derived.Test.YtpglaffmmddcdaaFlatV
import Derived.StillTailTactics
namespace Go.Proofs.Ytpglaffmmddcdaa
open Go.ChangeShapes Go.WideShapes Go.ChangeAt Go.Deep Go.RowKit
set_option maxRecDepth 100000

structure ShipD where
  name : ByteArray
  length : Int
  draught : Int
  line : Int
  tugs : Int
  slow : Bool
@[reducible] def ShipD.val (d : ShipD) : Value := .agg #[.string d.name, .int .i64 d.length, .int .i64 d.draught, .int .i64 d.line, .int .i64 d.tugs, .bool d.slow]
@[reducible] def ShipD.cells (d : ShipD) : List Value := [.string d.name, .int .i64 d.length, .int .i64 d.draught, .int .i64 d.line, .int .i64 d.tugs, .bool d.slow]
theorem shipLen (d : ShipD) : d.cells.length = 6 := rfl
theorem ship_one (x : ShipD) : ∀ v ∈ x.cells, v.oneCell' = true := fun v hv => by simp at hv; rcases hv with rfl | rfl | rfl | rfl | rfl | rfl <;> rfl
def SlShip : World → Value → List ShipD → Prop := SlOf 6 ShipD.cells
def OwnShip : World → Nat → Value → List ShipD → Prop := OwnOf 6 ShipD.cells 101
def NewShip : List ShipD → World → Ending → World → Prop := NewOf 6 ShipD.cells 101
theorem SlShip.at {w : World} {v : Value} {l : List ShipD} (h : SlShip w v l) : ∃ A c, v = .slice A l.length c := SlOf.form h
theorem SlShip.below {w w' : World} {v : Value} {l : List ShipD} (h : SlShip w v l) (hb : Below w.heap.size w w') : SlShip w' v l := SlOf.below h hb
theorem OwnShip.sl {w : World} {base : Nat} {v : Value} {l : List ShipD} (h : OwnShip w base v l) (hl : l.length ≤ 1000000000) : SlShip w v l := own_sl shipLen h hl
theorem SlShip.cells {w : World} {l : List ShipD} {g o : Nat} (hc : ∀ i x, l[i]? = some x → ∀ j u, (ShipD.cells x)[j]? = some u → w.cell? ⟨g, o + i * 6 + j, none⟩ = some u) (i : Nat) (x : ShipD) (hx : l[i]? = some x) :
    w.cell? ⟨g, o + i * 6, none⟩ = some (.string x.name) ∧ w.cell? ⟨g, o + i * 6 + 1, none⟩ = some (.int .i64 x.length) ∧ w.cell? ⟨g, o + i * 6 + 2, none⟩ = some (.int .i64 x.draught) ∧ w.cell? ⟨g, o + i * 6 + 3, none⟩ = some (.int .i64 x.line) ∧ w.cell? ⟨g, o + i * 6 + 4, none⟩ = some (.int .i64 x.tugs) ∧ w.cell? ⟨g, o + i * 6 + 5, none⟩ = some (.bool x.slow) :=
  ⟨hc i x hx 0 _ rfl, hc i x hx 1 _ rfl, hc i x hx 2 _ rfl, hc i x hx 3 _ rfl, hc i x hx 4 _ rfl, hc i x hx 5 _ rfl⟩
def zeroShip : List Value := [.string ⟨#[]⟩, .int .i64 0, .int .i64 0, .int .i64 0, .int .i64 0, .bool false]
theorem info_ship : (Try.prog.info? 101).map (fun i => (i.zero, i.size, i.bytes)) = some (some (.agg #[.string ⟨#[]⟩, .int .i64 0, .int .i64 0, .int .i64 0, .int .i64 0, .bool false]), 6, 56) := by kernel_rfl
theorem make_ships (n : Nat) (hn : n ≤ 1000000000) (W : World) :
    (Instr.makeSlice 70 (.int .i64 (n : Int)) (.int .i64 (n : Int))).run Try.prog W = .ok (.slice (some ⟨W.heap.size, 0, none⟩) n n) (W.alloc (.cells (madeCells #[.string ⟨#[]⟩, .int .i64 0, .int .i64 0, .int .i64 0, .int .i64 0, .bool false] (n * 6)) 101)) := by
  obtain ⟨i0, hi, hz0, hz1, hz2⟩ := info_parts info_ship
  have hr := run_make (P := Try.prog) W 70 101 i0 _ Try.underlying70 hi hz0 .i64 .i64 n n (by omega) (Int.le_refl _) (by rw [hz2]; omega) (by omega)
  simp only [Int.toNat_natCast, hz1] at hr
  exact hr

def oneShip (x : ShipD) : Int := (x.name.size : Int)
def bulkShip : List ShipD → Int
  | [] => 0
  | x :: l => oneShip x + bulkShip l
theorem bulkShip_append (a b : List ShipD) : bulkShip (a ++ b) = bulkShip a + bulkShip b := by
  induction a with
  | nil => simp [bulkShip]
  | cons x a ih => simp only [List.cons_append, bulkShip, ih]; omega
theorem oneShip_pos (x : ShipD) : 0 ≤ oneShip x := by unfold oneShip; omega
theorem bulkShip_pos (l : List ShipD) : 0 ≤ bulkShip l := by
  induction l with
  | nil => exact Int.le_refl _
  | cons x l ih => have := oneShip_pos x; simp only [bulkShip]; omega
theorem bulkShip_next {l : List ShipD} {k : Nat} {x : ShipD} (h : l[k]? = some x) : bulkShip (l.take (k + 1)) = bulkShip (l.take k) + oneShip x := by
  rw [take_snoc' l k x h, bulkShip_append]; simp [bulkShip]
theorem bulkShip_le (l : List ShipD) (k : Nat) : bulkShip (l.take k) ≤ bulkShip l := by
  have e := bulkShip_append (l.take k) (l.drop k)
  rw [List.take_append_drop] at e
  have := bulkShip_pos (l.drop k)
  omega

/-- What the marking that begins with k writes into cell j. -/
def mvShip (k : Int) (j : Nat) : Value := if j % 6 = 0 then .string (markT (k + (j : Int))) else if j % 6 = 1 then .int .i64 (k + (j : Int)) else if j % 6 = 2 then .int .i64 (k + (j : Int)) else if j % 6 = 3 then .int .i64 (k + (j : Int)) else if j % 6 = 4 then .int .i64 (k + (j : Int)) else .bool ((k + (j : Int)) % 3 == 0)
theorem mvShip_0 (k : Int) (j : Nat) : mvShip k (j * 6) = .string (markT (k + (j : Int) * 6)) := by
  unfold mvShip
  rw [if_pos (by omega), show k + ((j * 6 : Nat) : Int) = k + (j : Int) * 6 by omega]
theorem mvShip_1 (k : Int) (j : Nat) : mvShip k (j * 6 + 1) = .int .i64 (k + (j : Int) * 6 + 1) := by
  unfold mvShip
  rw [if_neg (by omega), if_pos (by omega), show k + ((j * 6 + 1 : Nat) : Int) = k + (j : Int) * 6 + 1 by omega]
theorem mvShip_2 (k : Int) (j : Nat) : mvShip k (j * 6 + 2) = .int .i64 (k + (j : Int) * 6 + 2) := by
  unfold mvShip
  rw [if_neg (by omega), if_neg (by omega), if_pos (by omega), show k + ((j * 6 + 2 : Nat) : Int) = k + (j : Int) * 6 + 2 by omega]
theorem mvShip_3 (k : Int) (j : Nat) : mvShip k (j * 6 + 3) = .int .i64 (k + (j : Int) * 6 + 3) := by
  unfold mvShip
  rw [if_neg (by omega), if_neg (by omega), if_neg (by omega), if_pos (by omega), show k + ((j * 6 + 3 : Nat) : Int) = k + (j : Int) * 6 + 3 by omega]
theorem mvShip_4 (k : Int) (j : Nat) : mvShip k (j * 6 + 4) = .int .i64 (k + (j : Int) * 6 + 4) := by
  unfold mvShip
  rw [if_neg (by omega), if_neg (by omega), if_neg (by omega), if_neg (by omega), if_pos (by omega), show k + ((j * 6 + 4 : Nat) : Int) = k + (j : Int) * 6 + 4 by omega]
theorem mvShip_5 (k : Int) (j : Nat) : mvShip k (j * 6 + 5) = .bool ((k + (j : Int) * 6 + 5) % 3 == 0) := by
  unfold mvShip
  rw [if_neg (by omega), if_neg (by omega), if_neg (by omega), if_neg (by omega), if_neg (by omega), show k + ((j * 6 + 5 : Nat) : Int) = k + (j : Int) * 6 + 5 by omega]
section
variable {H : Type} {enc : TypeId × Value → H} {w : World} {base : Nat} {spare : Nat → Bool} {held : Bool}
def ShipD.wf (d : ShipD) : Prop := d.name.size ≤ maxLen ∧ (Lit.int .i64 d.length).wf = true ∧ (Lit.int .i64 d.draught).wf = true ∧ (Lit.int .i64 d.line).wf = true ∧ (Lit.int .i64 d.tugs).wf = true

theorem wfszShip {x : ShipD} (h : x.wf) : x.name.size ≤ 9223372036854775807 := by have h' := (show _ from h).1; unfold maxLen at h'; omega
end

end Go.Proofs.Ytpglaffmmddcdaa
