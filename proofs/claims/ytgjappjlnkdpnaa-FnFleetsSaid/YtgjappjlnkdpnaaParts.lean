
/- Lists of a tide's parts: laws.toPartS, laws.eqPartS, laws.szPartS: contracts. -/
import Derived.Test.YtgjappjlnkdpnaaPart
import Derived.Test.YtgjappjlnkdpnaaRows2
import Derived.StillTailTactics
namespace Go.Proofs.Ytgjappjlnkdpnaa
open Go.RowKit
set_option maxRecDepth 100000

@[reducible] def PartD.cells (d : PartD) : List Value := [.int .i64 d.amp, .int .i64 d.per, .int .i64 d.pha]
theorem partLen (d : PartD) : d.cells.length = 3 := rfl
def SlP : World → Value → List PartD → Prop := SlOf 3 PartD.cells
def OwnP : World → Nat → Value → List PartD → Prop := OwnOf 3 PartD.cells 161
def NewP : List PartD → World → Ending → World → Prop := NewOf 3 PartD.cells 161

theorem info_part : (Try.prog.info? 161).map (fun i => (i.zero, i.size, i.bytes)) = some (some (.agg #[.int .i64 0, .int .i64 0, .int .i64 0]), 3, 24) := by kernel_rfl
theorem make_parts (n : Nat) (hn : n ≤ 1000000000) (W : World) :
    (Instr.makeSlice 43 (.int .i64 (n : Int)) (.int .i64 (n : Int))).run Try.prog W = .ok (.slice (some ⟨W.heap.size, 0, none⟩) n n) (W.alloc (.cells (madeCells #[.int .i64 0, .int .i64 0, .int .i64 0] (n * 3)) 161)) := by
  obtain ⟨i0, hi, hz0, hz1, hz2⟩ := info_parts info_part
  have hr := run_make (P := Try.prog) W 43 161 i0 _ Try.underlying43 hi hz0 .i64 .i64 n n (by omega) (Int.le_refl _) (by rw [hz2]; omega) (by omega)
  simp only [Int.toNat_natCast, hz1] at hr
  exact hr

theorem SlP.cells {w : World} {l : List PartD} {g o : Nat} (hc : ∀ i x, l[i]? = some x → ∀ j u, (PartD.cells x)[j]? = some u → w.cell? ⟨g, o + i * 3 + j, none⟩ = some u) (i : Nat) (x : PartD) (hx : l[i]? = some x) :
    w.cell? ⟨g, o + i * 3, none⟩ = some (.int .i64 x.amp) ∧ w.cell? ⟨g, o + i * 3 + 1, none⟩ = some (.int .i64 x.per) ∧ w.cell? ⟨g, o + i * 3 + 2, none⟩ = some (.int .i64 x.pha) :=
  ⟨hc i x hx 0 _ rfl, hc i x hx 1 _ rfl, hc i x hx 2 _ rfl⟩

def zeroP : List Value := [.int .i64 0, .int .i64 0, .int .i64 0]

/-! ### eqPartS, at two slices that read alike -/
end Go.Proofs.Ytgjappjlnkdpnaa
