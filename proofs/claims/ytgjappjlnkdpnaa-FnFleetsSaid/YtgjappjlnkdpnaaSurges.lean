
/- Surge by value and in lists: the laws' helpers over it: contracts; how an argument is opened. -/
import Derived.Test.YtgjappjlnkdpnaaText
import Derived.Test.YtgjappjlnkdpnaaOpen
import Derived.Test.YtgjappjlnkdpnaaFlat
import Derived.StillTailTactics
namespace Go.Proofs.Ytgjappjlnkdpnaa
open Go.ChangeShapes Go.WideShapes Go.ChangeAt Go.Deep Go.RowKit
set_option maxRecDepth 100000

structure SurgeD where
  fr : Int
  lo : Int
  hi : Int
@[reducible] def SurgeD.val (d : SurgeD) : Value := .agg #[.int .i64 d.fr, .int .i64 d.lo, .int .i64 d.hi]
@[reducible] def SurgeD.cells (d : SurgeD) : List Value := [.int .i64 d.fr, .int .i64 d.lo, .int .i64 d.hi]
theorem surgeLen (d : SurgeD) : d.cells.length = 3 := rfl
def SlSurge : World → Value → List SurgeD → Prop := SlOf 3 SurgeD.cells
def OwnSurge : World → Nat → Value → List SurgeD → Prop := OwnOf 3 SurgeD.cells 157
def NewSurge : List SurgeD → World → Ending → World → Prop := NewOf 3 SurgeD.cells 157
theorem SlSurge.at {w : World} {v : Value} {l : List SurgeD} (h : SlSurge w v l) : ∃ A c, v = .slice A l.length c := SlOf.form h
theorem SlSurge.below {w w' : World} {v : Value} {l : List SurgeD} (h : SlSurge w v l) (hb : Below w.heap.size w w') : SlSurge w' v l := SlOf.below h hb
theorem OwnSurge.sl {w : World} {base : Nat} {v : Value} {l : List SurgeD} (h : OwnSurge w base v l) (hl : l.length ≤ 1000000000) : SlSurge w v l := own_sl surgeLen h hl
theorem SlSurge.cells {w : World} {l : List SurgeD} {g o : Nat} (hc : ∀ i x, l[i]? = some x → ∀ j u, (SurgeD.cells x)[j]? = some u → w.cell? ⟨g, o + i * 3 + j, none⟩ = some u) (i : Nat) (x : SurgeD) (hx : l[i]? = some x) :
    w.cell? ⟨g, o + i * 3, none⟩ = some (.int .i64 x.fr) ∧ w.cell? ⟨g, o + i * 3 + 1, none⟩ = some (.int .i64 x.lo) ∧ w.cell? ⟨g, o + i * 3 + 2, none⟩ = some (.int .i64 x.hi) :=
  ⟨hc i x hx 0 _ rfl, hc i x hx 1 _ rfl, hc i x hx 2 _ rfl⟩
def zeroSurge : List Value := [.int .i64 0, .int .i64 0, .int .i64 0]
theorem info_surge : (Try.prog.info? 157).map (fun i => (i.zero, i.size, i.bytes)) = some (some (.agg #[.int .i64 0, .int .i64 0, .int .i64 0]), 3, 24) := by kernel_rfl
theorem make_surges (n : Nat) (hn : n ≤ 1000000000) (W : World) :
    (Instr.makeSlice 46 (.int .i64 (n : Int)) (.int .i64 (n : Int))).run Try.prog W = .ok (.slice (some ⟨W.heap.size, 0, none⟩) n n) (W.alloc (.cells (madeCells #[.int .i64 0, .int .i64 0, .int .i64 0] (n * 3)) 157)) := by
  obtain ⟨i0, hi, hz0, hz1, hz2⟩ := info_parts info_surge
  have hr := run_make (P := Try.prog) W 46 157 i0 _ Try.underlying46 hi hz0 .i64 .i64 n n (by omega) (Int.le_refl _) (by rw [hz2]; omega) (by omega)
  simp only [Int.toNat_natCast, hz1] at hr
  exact hr

section
variable {H : Type} {enc : TypeId × Value → H} {w : World} {base : Nat} {spare : Nat → Bool} {held : Bool}
def SurgeD.wf (d : SurgeD) : Prop := (Lit.int .i64 d.fr).wf = true ∧ (Lit.int .i64 d.lo).wf = true ∧ (Lit.int .i64 d.hi).wf = true

end

end Go.Proofs.Ytgjappjlnkdpnaa
