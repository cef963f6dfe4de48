
/- Regime by value and in lists: the laws' helpers over it: contracts; how an argument is opened. -/
import Derived.Test.YtpglaffmmddcdaaMarks
import Derived.Test.YtpglaffmmddcdaaOpen
import Derived.Test.YtpglaffmmddcdaaFlatV
import Derived.StillTailTactics
namespace Go.Proofs.Ytpglaffmmddcdaa
open Go.ChangeShapes Go.WideShapes Go.ChangeAt Go.Deep Go.RowKit
set_option maxRecDepth 100000

structure RegimeD where
  gap : Int
  noMeet : Bool
@[reducible] def RegimeD.val (d : RegimeD) : Value := .agg #[.int .i64 d.gap, .bool d.noMeet]
@[reducible] def RegimeD.cells (d : RegimeD) : List Value := [.int .i64 d.gap, .bool d.noMeet]
theorem regimeLen (d : RegimeD) : d.cells.length = 2 := rfl
theorem regime_one (x : RegimeD) : ∀ v ∈ x.cells, v.oneCell' = true := fun v hv => by simp at hv; rcases hv with rfl | rfl <;> rfl
def SlRegime : World → Value → List RegimeD → Prop := SlOf 2 RegimeD.cells
def OwnRegime : World → Nat → Value → List RegimeD → Prop := OwnOf 2 RegimeD.cells 28
def NewRegime : List RegimeD → World → Ending → World → Prop := NewOf 2 RegimeD.cells 28
theorem SlRegime.at {w : World} {v : Value} {l : List RegimeD} (h : SlRegime w v l) : ∃ A c, v = .slice A l.length c := SlOf.form h
theorem SlRegime.below {w w' : World} {v : Value} {l : List RegimeD} (h : SlRegime w v l) (hb : Below w.heap.size w w') : SlRegime w' v l := SlOf.below h hb
theorem OwnRegime.sl {w : World} {base : Nat} {v : Value} {l : List RegimeD} (h : OwnRegime w base v l) (hl : l.length ≤ 1000000000) : SlRegime w v l := own_sl regimeLen h hl
theorem SlRegime.cells {w : World} {l : List RegimeD} {g o : Nat} (hc : ∀ i x, l[i]? = some x → ∀ j u, (RegimeD.cells x)[j]? = some u → w.cell? ⟨g, o + i * 2 + j, none⟩ = some u) (i : Nat) (x : RegimeD) (hx : l[i]? = some x) :
    w.cell? ⟨g, o + i * 2, none⟩ = some (.int .i64 x.gap) ∧ w.cell? ⟨g, o + i * 2 + 1, none⟩ = some (.bool x.noMeet) :=
  ⟨hc i x hx 0 _ rfl, hc i x hx 1 _ rfl⟩
def zeroRegime : List Value := [.int .i64 0, .bool false]
theorem info_regime : (Try.prog.info? 28).map (fun i => (i.zero, i.size, i.bytes)) = some (some (.agg #[.int .i64 0, .bool false]), 2, 16) := by kernel_rfl
theorem toRegime_any (gap : Int) (noMeet : Bool) (w : World) : Calls Try.prog 23 #[.agg #[.int .i64 gap, .bool noMeet]] w fun e w' => e = .returned (.agg #[.int .i64 gap, .bool noMeet]) ∧ Below w.heap.size w w' := by
  go_enter Try.func23, Try.ntmps23
  go_wp2
  refine bodyPost_ret (v := .agg #[.int .i64 gap, .bool noMeet]) (by simp [results, Try.results23, go_sem]) rfl ⟨rfl, ?_⟩
  repeat (first | exact Below.refl _ _ | refine Below.setCell ?_ (by simp <;> omega) _ | refine Below.alloc ?_ (by simp <;> omega) _)

def bulkRegime (_ : List RegimeD) : Int := 0
theorem bulkRegime_pos (l : List RegimeD) : 0 ≤ bulkRegime l := Int.le_refl _

/-- What the marking that begins with k writes into cell j. -/
def mvRegime (k : Int) (j : Nat) : Value := if j % 2 = 0 then .int .i64 (k + (j : Int)) else .bool ((k + (j : Int)) % 3 == 0)
theorem mvRegime_0 (k : Int) (j : Nat) : mvRegime k (j * 2) = .int .i64 (k + (j : Int) * 2) := by
  unfold mvRegime
  rw [if_pos (by omega), show k + ((j * 2 : Nat) : Int) = k + (j : Int) * 2 by omega]
theorem mvRegime_1 (k : Int) (j : Nat) : mvRegime k (j * 2 + 1) = .bool ((k + (j : Int) * 2 + 1) % 3 == 0) := by
  unfold mvRegime
  rw [if_neg (by omega), show k + ((j * 2 + 1 : Nat) : Int) = k + (j : Int) * 2 + 1 by omega]
section
variable {H : Type} {enc : TypeId × Value → H} {w : World} {base : Nat} {spare : Nat → Bool} {held : Bool}
def RegimeD.wf (d : RegimeD) : Prop := (Lit.int .i64 d.gap).wf = true

theorem dec_regime (n : Nat) (cs : List Value) (y : DataW H × List MemPlace) (h : DataW.trod enc Try.prog w base spare held n 45 cs = some y) : ∃ d : RegimeD, cs = d.cells ∧ d.wf := by
  obtain ⟨hl, hf⟩ := struct_cells Try.underlying45 (by kernel_rfl) (by kernel_rfl) h
  obtain ⟨v0, n0, y0, e0, h0⟩ := hf 0 _ rfl
  obtain ⟨v1, n1, y1, e1, h1⟩ := hf 1 _ rfl
  obtain ⟨a0, ha0, _, wa0⟩ := DataW.trod_int Try.underlying3 h0
  obtain ⟨a1, ha1, _⟩ := DataW.trod_bool Try.underlying4 h1
  simp only [List.cons.injEq, and_true] at ha0 ha1
  subst ha0 ha1
  refine ⟨⟨a0, a1⟩, ?_, wa0⟩
  match cs, hl with
  | [c0, c1], _ =>
    simp at e0 e1
    subst e0 e1
    rfl

theorem open_regime_arg {r : Reach} {b0 : Nat} {v : Value} {d : DataW H} {ps : List MemPlace} (hval : Value.okWide Try.prog w r b0 45 v) (hd : DataW.Trod enc Try.prog w 0 (fun _ => true) true 45 v d ps) :
    ∃ p : RegimeD, v = p.val ∧ p.wf := by
  obtain ⟨cs, rfl, hsz⟩ := okWide_struct Try.underlying45 hval
  obtain ⟨fuel, hf⟩ := hd
  obtain ⟨p, hp, hw⟩ := dec_regime _ _ _ hf
  refine ⟨p, ?_, hw⟩
  obtain ⟨l⟩ := cs
  simp [Value.cells] at hp
  rw [hp]
end

end Go.Proofs.Ytpglaffmmddcdaa
