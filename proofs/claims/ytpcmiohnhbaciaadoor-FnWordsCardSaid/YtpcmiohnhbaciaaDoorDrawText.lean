/- A drawn string of a list, and the text that a law draws: contracts. -/
import Derived.Test.YtpcmiohnhbaciaaDoorDraw
import Derived.Test.YtpcmiohnhbaciaaDoorStrs
namespace Go.Proofs.YtpcmiohnhbaciaaDoor
open Go.RowKit

/-- What drawing one of the strings leaves. -/
def DrawsStr (p : Nat) (l : List ByteArray) (w : World) (e : Ending) (w' : World) : Prop := ∃ x ∈ l, e = .returned (.string x) ∧ Cursor w' p ∧ w.grownBy w' (some p)

set_option maxHeartbeats 1000000 in
theorem l01Str_any (p : Nat) (v : Value) (l : List ByteArray) (w : World) (hcur : Cursor w p) (hs : SlS w v l) (h0 : 0 < l.length) (h1 : l.length ≤ 1000000) (hne : v.ownBlock ≠ some p) :
    Calls Tryd.prog 22 #[.pointer (some ⟨p, 0, none⟩), v] w (DrawsStr p l w) := by
  obtain ⟨hl, hs⟩ := hs
  rcases hs with ⟨rfl, _⟩ | ⟨g, o, c, rfl, hp, hcap, hcells⟩
  · simp at h0
  · have C := Lib.hid (l01Below_any p (l.length : Int) w (by omega) (by omega) hcur)
    have hgp : g ≠ p := fun e => hne (by rw [e]; rfl)
    have HC := Lib.hid hcells
    clear hcells hcur hne
    go_enter Tryd.func22, Tryd.ntmps22
    go_wp2_with fail
    refine C.out.mono ?_
    rintro e w1 ⟨x, rfl, x0, x1, hc1, hg1⟩
    obtain ⟨k, rfl⟩ : ∃ k : Nat, x = (k : Int) := ⟨x.toNat, by omega⟩
    have hk : k < l.length := by omega
    have hcell : w1.cell? ⟨g, o + k, none⟩ = some (.string l[k]) := hg1.cell (HC.out k _ (List.getElem?_eq_getElem hk)) (fun e => hgp (Option.some.inj e))
    have HC1 := Lib.hid hc1
    have HG := Lib.hid hg1
    have HM := Lib.hid (List.getElem_mem hk)
    generalize l[k] = y at hcell HM
    clear hc1 hg1
    go_wp2
    go_ret
    exact ⟨y, HM.out, rfl, HC1.out, HG.out⟩

def words5 : List ByteArray := [⟨#[97]⟩, ⟨#[98, 99]⟩, ⟨#[32]⟩, ⟨#[44]⟩, ⟨#[120, 49]⟩]
theorem words5_size : ∀ x ∈ words5, x.size ≤ 2 := by decide

/-- A short text, out of new memory alone. -/
def NewText (w : World) (e : Ending) (w' : World) : Prop := ∃ s : ByteArray, e = .returned (.string s) ∧ s.size ≤ 14 ∧ Below w.heap.size w w'

set_option maxHeartbeats 1000000 in
theorem makeText_any (A : Option Addr) (n c : Nat) (w : World) (hcode : CodeAt w A n) :
    Calls Tryd.prog 9 #[.slice A n c] w (NewText w) := by
  have C := Lib.hid (l01New_any A n c w hcode)
  clear hcode
  go_enter Tryd.func9, Tryd.ntmps9
  go_wp2_with fail
  refine C.out.mono ?_
  rintro e w1 ⟨p, rfl, hp, hcur, hb⟩
  have HC := Lib.hid hcur
  have hbs := hb.size
  clear hcur
  go_wp2_with fail
  refine (l01Below_any p 8 w1 (by omega) (by omega) HC.out).mono ?_
  rintro e w2 ⟨x, rfl, x0, x1, hc2, hg2⟩
  have HC2 := Lib.hid hc2
  have hB2 := below_of_grown hb hg2 hbs hp
  clear hc2 hg2
  obtain ⟨k0, rfl⟩ : ∃ k : Nat, x = (k : Int) := ⟨x.toNat, by omega⟩
  go_wp2
  go_loopw [4, 5] (fun q i wr => ∃ (k : Nat) (t : ByteArray), t.size + 2 * k ≤ 14 ∧ i = .int .i64 k ∧ q = .string t ∧ Hid (Cursor wr p) ∧ Below w.heap.size w wr) (fun _ i _ => (intOf i).toNat)
  case atStart => exact ⟨k0, _, by show 0 + 2 * k0 ≤ 14; omega, rfl, rfl, HC2, hB2⟩
  case round =>
    obtain ⟨k, t, hk, rfl, rfl, hcu, hbr⟩ := hrel
    have hbs2 := hbr.size
    by_cases hlt : 0 < k
    · have hcu2 : Hid (Cursor (wr.alloc (.cells #[.string ⟨#[97]⟩, .string ⟨#[98, 99]⟩, .string ⟨#[32]⟩, .string ⟨#[44]⟩, .string ⟨#[120, 49]⟩] 9)) p) := hcu.out.below ((Below.refl _ _).alloc (Nat.le_refl _) _)
      have hpl : p < wr.heap.size := by
        obtain ⟨_, _, _, _, _, hc, _⟩ := hcu.out
        exact hc.lt
      have hsl : SlS (wr.alloc (.cells #[.string ⟨#[97]⟩, .string ⟨#[98, 99]⟩, .string ⟨#[32]⟩, .string ⟨#[44]⟩, .string ⟨#[120, 49]⟩] 9)) (.slice (some ⟨wr.heap.size, 0, none⟩) 5 5) words5 := by
        refine ⟨by decide, .inr ⟨wr.heap.size, 0, 5, rfl, by decide, by decide, fun j y hy => ?_⟩⟩
        rw [World.cell?_alloc_at _ _ _ _ rfl]
        match j, hy with
        | 0, hy => simp [words5] at hy; subst hy; rfl
        | 1, hy => simp [words5] at hy; subst hy; rfl
        | 2, hy => simp [words5] at hy; subst hy; rfl
        | 3, hy => simp [words5] at hy; subst hy; rfl
        | 4, hy => simp [words5] at hy; subst hy; rfl
      have C3 := Lib.hid (l01Str_any p _ words5 _ hcu2.out hsl (by decide) (by decide) (by simp [Value.ownBlock]; omega))
      have hb3 : Hid (Below w.heap.size w (wr.alloc (.cells #[.string ⟨#[97]⟩, .string ⟨#[98, 99]⟩, .string ⟨#[32]⟩, .string ⟨#[44]⟩, .string ⟨#[120, 49]⟩] 9))) := hbr.alloc hbs2 _
      clear hsl
      go_wp2_with fail
      refine C3.out.mono ?_
      rintro e w3 ⟨y, hy, rfl, hc3, hg3⟩
      have hys := words5_size y hy
      have HC3 := Lib.hid hc3
      have hB3 := below_of_grown hb3.out hg3 (by have := hb3.out.size; exact this) hp
      clear hc3 hg3 hy
      go_wp2
      go_roundw
      case rel => exact ⟨k - 1, _, by rw [ByteArray.size_append]; omega, by go_num, rfl, HC3, hB3⟩
      case measure => simp [intOf]; omega
    · go_wp2
      go_ret
      exact ⟨t, rfl, by omega, hbr⟩

end Go.Proofs.YtpcmiohnhbaciaaDoor
