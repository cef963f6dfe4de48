
/- How a part and a tide that came in are opened. -/
import Derived.Test.YtdpidbkkhmombaaTide
import Derived.Test.YtdpidbkkhmombaaOpen
import Derived.Test.YtdpidbkkhmombaaKit
namespace Go.Proofs.Ytdpidbkkhmombaa
open Go.ChangeShapes Go.WideShapes Go.ChangeAt Go.Deep Go.RowKit
set_option maxRecDepth 100000

section
variable {H : Type} {enc : TypeId × Value → H} {w : World} {base : Nat} {spare : Nat → Bool} {held : Bool}

def PartD.wf (d : PartD) : Prop := (Lit.int .i64 d.amp).wf = true ∧ (Lit.int .i64 d.per).wf = true ∧ (Lit.int .i64 d.pha).wf = true

theorem dec_part (n : Nat) (cs : List Value) (y : DataW H × List MemPlace) (h : DataW.trod enc Try.prog w base spare held n 130 cs = some y) : ∃ d : PartD, cs = d.cells ∧ d.wf := by
  obtain ⟨hl, hf⟩ := struct_cells Try.underlying130 (by kernel_rfl) (by kernel_rfl) h
  obtain ⟨v0, n0, y0, e0, h0⟩ := hf 0 _ rfl
  obtain ⟨v1, n1, y1, e1, h1⟩ := hf 1 _ rfl
  obtain ⟨v2, n2, y2, e2, h2⟩ := hf 2 _ rfl
  obtain ⟨a, ha, _, wa⟩ := DataW.trod_int Try.underlying3 h0
  obtain ⟨p, hp, _, wp⟩ := DataW.trod_int Try.underlying3 h1
  obtain ⟨q, hq, _, wq⟩ := DataW.trod_int Try.underlying3 h2
  simp only [List.cons.injEq, and_true] at ha hp hq
  subst ha hp hq
  refine ⟨⟨a, p, q⟩, ?_, wa, wp, wq⟩
  match cs, hl with
  | [c0, c1, c2], _ =>
    simp at e0 e1 e2
    subst e0 e1 e2
    rfl

theorem open_parts {fuel : Nat} {v : Value} {x : DataW H × List MemPlace} (h : DataW.trod enc Try.prog w base (fun _ => true) held fuel 54 [v] = some x) :
    ∃ A c l, v = .slice A l.length c ∧ l.length ≤ maxLen ∧ (l.length ≤ 1000000000 → SlP w (.slice A l.length c) l) ∧ ∀ d ∈ l, PartD.wf d :=
  open_elems PartD.cells 3 PartD.wf Try.underlying54 (by kernel_rfl) partLen (by omega) dec_part h

/-- A tide that came in. -/
def TideIn (w : World) (m : Int) (A : Option Addr) (c : Nat) (l : List PartD) : Prop := (Lit.int .i64 m).wf = true ∧ l.length ≤ maxLen ∧ (l.length ≤ 1000000000 → SlP w (.slice A l.length c) l) ∧ ∀ d ∈ l, PartD.wf d

theorem open_tide_arg {r : Reach} {b0 : Nat} {v : Value} {d : DataW H} {ps : List MemPlace} (hval : Value.okWide Try.prog w r b0 56 v) (hd : DataW.Trod enc Try.prog w 0 (fun _ => true) true 56 v d ps) :
    ∃ m A c l, v = .agg #[.int .i64 m, .slice A l.length c] ∧ TideIn w m A c l := by
  obtain ⟨v0, v1, y0, y1, n, rfl, _, _, h0, h1⟩ := Joins.open_agg2 Try.underlying56 (by kernel_rfl) (by kernel_rfl) hval hd
  obtain ⟨m, hm, _, wm⟩ := DataW.trod_int Try.underlying3 h0
  simp only [List.cons.injEq, and_true] at hm
  subst hm
  obtain ⟨A, c, l, rfl, g⟩ := open_parts h1
  exact ⟨m, A, c, l, rfl, wm, g⟩

theorem open_part_arg {r : Reach} {b0 : Nat} {v : Value} {d : DataW H} {ps : List MemPlace} (hval : Value.okWide Try.prog w r b0 130 v) (hd : DataW.Trod enc Try.prog w 0 (fun _ => true) true 130 v d ps) :
    ∃ p : PartD, v = p.val ∧ p.wf := by
  obtain ⟨cs, rfl, hsz⟩ := okWide_struct Try.underlying130 hval
  obtain ⟨fuel, hf⟩ := hd
  obtain ⟨p, hp, hw⟩ := dec_part _ _ _ hf
  refine ⟨p, ?_, hw⟩
  obtain ⟨l⟩ := cs
  simp [Value.cells] at hp
  rw [hp]
end

end Go.Proofs.Ytdpidbkkhmombaa
