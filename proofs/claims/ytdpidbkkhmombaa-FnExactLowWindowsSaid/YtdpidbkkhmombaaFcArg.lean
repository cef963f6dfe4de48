
/- How a surge and a forecast that came in are opened. -/
import Derived.Test.YtdpidbkkhmombaaForecast
namespace Go.Proofs.Ytdpidbkkhmombaa
open Go.ChangeShapes Go.WideShapes Go.ChangeAt Go.Deep Go.RowKit
set_option maxRecDepth 100000

section
variable {H : Type} {enc : TypeId × Value → H} {w : World} {base : Nat} {held : Bool}

theorem dec_fc (n : Nat) (cs : List Value) (y : DataW H × List MemPlace) (h : DataW.trod enc Try.prog w base (fun _ => true) held n 59 cs = some y) :
    ∃ m A c l A' c' s, cs = [.int .i64 m, .slice A l.length c, .slice A' s.length c'] ∧ FcIn w m A c l A' c' s := by
  obtain ⟨xs, n1, _, _, hlen, hxl, hf⟩ := DataW.trod_struct Try.underlying59 h
  rw [show Try.prog.cellsOf 59 = 3 by kernel_rfl] at hlen
  match cs, hlen with
  | [c0, c1, c2], _ =>
    have h0 : DataW.trod enc Try.prog w base (fun _ => true) held n1 56 (([c0, c1, c2].drop 0).take (Try.prog.cellsOf 56)) = xs[0]? := hf 0 _ rfl
    have h1 : DataW.trod enc Try.prog w base (fun _ => true) held n1 57 (([c0, c1, c2].drop 2).take (Try.prog.cellsOf 57)) = xs[1]? := hf 1 _ rfl
    obtain ⟨x0, hx0⟩ : ∃ x, xs[0]? = some x := ⟨_, List.getElem?_eq_getElem (by rw [hxl]; decide)⟩
    obtain ⟨x1, hx1⟩ : ∃ x, xs[1]? = some x := ⟨_, List.getElem?_eq_getElem (by rw [hxl]; decide)⟩
    rw [hx0] at h0
    rw [hx1] at h1
    rw [show Try.prog.cellsOf 56 = 2 by kernel_rfl] at h0
    rw [show Try.prog.cellsOf 57 = 1 by kernel_rfl] at h1
    obtain ⟨_, g0⟩ := struct_cells Try.underlying56 (by kernel_rfl) (by kernel_rfl) h0
    obtain ⟨v0, n2, y0, e0, k0⟩ := g0 0 _ rfl
    obtain ⟨v1, n3, y1, e1, k1⟩ := g0 1 _ rfl
    simp at e0 e1
    subst e0 e1
    obtain ⟨m, hm, _, wm⟩ := DataW.trod_int Try.underlying3 k0
    simp only [List.cons.injEq, and_true] at hm
    subst hm
    obtain ⟨A, c, l, rfl, gl⟩ := open_parts k1
    obtain ⟨A', c', s, hs, gs⟩ := open_surges (v := c2) h1
    subst hs
    exact ⟨m, A, c, l, A', c', s, rfl, wm, gl.1, gs.1, gl.2.1, gs.2.1, gl.2.2, gs.2.2⟩

theorem open_fc_arg {r : Reach} {b0 : Nat} {v : Value} {d : DataW H} {ps : List MemPlace} (hval : Value.okWide Try.prog w r b0 59 v) (hd : DataW.Trod enc Try.prog w 0 (fun _ => true) true 59 v d ps) :
    ∃ m A c l A' c' s, v = .agg #[.int .i64 m, .slice A l.length c, .slice A' s.length c'] ∧ FcIn w m A c l A' c' s := by
  obtain ⟨cs, rfl, hsz⟩ := okWide_struct Try.underlying59 hval
  obtain ⟨fuel, hf⟩ := hd
  obtain ⟨m, A, c, l, A', c', s, hp, g⟩ := dec_fc _ _ _ hf
  refine ⟨m, A, c, l, A', c', s, ?_, g⟩
  obtain ⟨ls⟩ := cs
  simp [Value.cells] at hp
  rw [hp]
end

end Go.Proofs.Ytdpidbkkhmombaa
