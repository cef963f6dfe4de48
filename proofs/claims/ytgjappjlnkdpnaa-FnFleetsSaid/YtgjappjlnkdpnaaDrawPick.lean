
/- A draw out of a short list of integers: contract. -/
import Derived.Test.YtgjappjlnkdpnaaDraw
namespace Go.Proofs.Ytgjappjlnkdpnaa
open Go.RowKit
set_option maxRecDepth 100000

/-- What a draw out of a list leaves. -/
def Picks (p : Nat) (vals : List Int) (w : World) (e : Ending) (w' : World) : Prop := ∃ x : Int, e = .returned (.int .i64 x) ∧ x ∈ vals ∧ Cursor w' p ∧ w.grownBy w' (some p)

theorem l01Pick_any (p g o c : Nat) (vals : List Int) (w : World) (h0 : 0 < vals.length) (h1 : vals.length ≤ 1000) (hne : g ≠ p) (hv : ∀ j x, vals[j]? = some x → w.cell? ⟨g, o + j, none⟩ = some (.int .i64 x)) (hcur : Cursor w p) :
    Calls Try.prog 115 #[.pointer (some ⟨p, 0, none⟩), .slice (some ⟨g, o, none⟩) vals.length c] w (Picks p vals w) := by
  have HV := Lib.hid hv
  have C := Lib.hid (l01Below_any p vals.length w (by omega) (by omega) hcur)
  clear hv hcur
  go_enter Try.func115, Try.ntmps115
  go_wp2_with fail
  refine C.out.mono ?_
  rintro e w1 ⟨i, rfl, i0, i1, hc1, hg1⟩
  obtain ⟨k, rfl⟩ : ∃ k : Nat, i = (k : Int) := ⟨i.toNat, by omega⟩
  obtain ⟨x, hx⟩ : ∃ x, vals[k]? = some x := ⟨_, List.getElem?_eq_getElem (by omega)⟩
  have hcell : w1.cell? ⟨g, o + k, none⟩ = some (.int .i64 x) := hg1.cell (HV.out k x hx) (fun e => hne (Option.some.inj e))
  have HC := Lib.hid hc1
  have HG := Lib.hid hg1
  have HX := Lib.hid (List.mem_of_getElem? hx)
  clear hc1 hg1 hx
  go_wp2
  go_ret
  exact ⟨x, rfl, HX.out, HC.out, HG.out⟩

end Go.Proofs.Ytgjappjlnkdpnaa
