/- The law FnWords holds for all bytes: integers are recovered from their text, and strings from their parts; the bytes read as before; under what the library's own tables and errors hold, tied to the program's text. -/
import Derived.Test.YtpcmiohnhbaciaaDoorCards
import Derived.Test.YtpcmiohnhbaciaaDoorTie
import Derived.Test.YtpcmiohnhbaciaaDoorKit
import Derived.Test.YtpcmiohnhbaciaaDoorLaid
import Derived.Test.YtpcmiohnhbaciaaDoorParse
import Derived.Test.YtpcmiohnhbaciaaDoorCodeArg
import Derived.Test.YtpcmiohnhbaciaaDoorDrawText
import Derived.Test.YtpcmiohnhbaciaaDoorSplitJoin
import Derived.Test.YtpcmiohnhbaciaaDoorJoined
import Derived.Test.YtpcmiohnhbaciaaDoorLines
import Derived.Test.YtpcmiohnhbaciaaDoorNamesImpl
import Derived.Deep.DeepHandedRow
import Derived.Deep.DeepWitnessRowRef
namespace Go.Proofs.YtpcmiohnhbaciaaDoor
open Go.RowKit

namespace lawWords
open Go.ChangeShapes Go.WideShapes Go.ChangeAt

theorem own : ownKnob Tryd.prog.godebug = none := by kernel_rfl
theorem laidOut : laidOutB Tryd.prog = true := by kernel_rfl

theorem name_x1 : nameB ⟨#[120, 49]⟩ = true := by decide +kernel
theorem lines_ab : (linesL ⟨#[97, 10, 98, 10]⟩).length = 2 := by decide +kernel
theorem own_len {w : World} {base : Nat} {v : Value} {l : List ByteArray} (h : OwnStrs w base v l) : ∃ A c, v = .slice A l.length c := by
  obtain ⟨_, h2⟩ := h
  rcases h2 with ⟨rfl, h0⟩ | ⟨g, cap, cur, rfl, _⟩
  · exact ⟨_, _, by rw [h0]⟩
  · exact ⟨_, _, rfl⟩
theorem num_back (n : Int) (h : inRange n) : implL (numT n).data.toList = some n := implL_full h rfl

set_option maxHeartbeats 1000000 in
theorem law (A : Option Addr) (n c : Nat) (w : World) (hcode : n ≤ maxLen ∧ (n ≤ 1048576 → CodeAt w A n)) (hp : LibIs w) :
    Calls Tryd.prog 3 #[.slice A n c] w fun e w' => e = .returned (.bool true) ∧ Below w.heap.size w w' := by
  have HP := Lib.hid hp
  obtain ⟨hn, hcode⟩ := hcode
  have HC := Lib.hid hcode
  clear hp hcode
  unfold maxLen at hn
  by_cases hbig : 1048576 < n
  · go_enter Tryd.func3, Tryd.ntmps3
    go_wp2
    go_ret
    exact ⟨rfl, Below.refl _ _⟩
  · have HC0 := Lib.hid (HC.out (by omega))
    clear HC
    go_enter Tryd.func3, Tryd.ntmps3
    go_wp2_with fail
    refine (makeNum_any A n c 1 w HC0.out (by omega)).mono ?_
    rintro e w1 ⟨x, rfl, x0, x1, hb1⟩
    have HC1 := Lib.hid (HC0.out.below hb1)
    have HP1 := Lib.hid (HP.out.below hb1)
    go_wp2_with fail
    refine (implFormat (x - 30000) w1 (by omega) (by omega) HP1.out.1).mono ?_
    rintro e w2 ⟨rfl, hb2⟩
    have B2 : Below w.heap.size w w2 := hb1.trans (hb2.mono hb1.size)
    have HC2 := Lib.hid (HC1.out.below hb2)
    have HP2 := Lib.hid (HP1.out.below hb2)
    have hnl : (numT (x - 30000)).size ≤ 1048576 := by have := numT_len (x - 30000) (by omega) (by omega); omega
    go_wp2_with fail
    refine (implParse _ w2 hnl HP2.out).mono ?_
    rintro e w3 ⟨rfl, hb3⟩
    rw [num_back (x - 30000) ⟨by omega, by omega⟩]
    simp only [Option.getD_some, Option.isSome_some]
    have B3 : Below w.heap.size w w3 := B2.trans (hb3.mono B2.size)
    have HC3 := Lib.hid (HC2.out.below hb3)
    go_wp2_with fail
    refine (makeText_any A n c w3 HC3.out).mono ?_
    rintro e w4 ⟨s, rfl, hs, hb4⟩
    have B4 : Below w.heap.size w w4 := B3.trans (hb4.mono B3.size)
    go_wp2_with fail
    refine (implSplitAny s spc w4 (by omega) (by decide)).mono ?_
    rintro e w5 ⟨v5, rfl, ho5, hb5⟩
    have B5 : Below w.heap.size w w5 := B4.trans (hb5.mono B4.size)
    have S5 := Lib.hid (own_sls ho5 (by have := splitL_len s spc; omega))
    clear ho5
    go_wp2_with fail
    refine (implJoin v5 (splitL s spc) spc w5 S5.out (by rw [join_split]; omega)).mono ?_
    rintro e w6 ⟨rfl, hb6⟩
    rw [join_split]
    have B6 : Below w.heap.size w w6 := B5.trans (hb6.mono B5.size)
    go_wp2_with fail
    refine (implIsName ⟨#[120, 49]⟩ w6 (by decide)).mono ?_
    rintro e w7 ⟨rfl, hb7⟩
    rw [name_x1]
    have B7 : Below w.heap.size w w7 := B6.trans (hb7.mono B6.size)
    go_wp2_with fail
    refine (implSplitLines ⟨#[97, 10, 98, 10]⟩ w7 (by decide)).mono ?_
    rintro e w8 ⟨v8, rfl, ho8, hb8⟩
    have B8 : Below w.heap.size w w8 := B7.trans (hb8.mono B7.size)
    obtain ⟨A8, c8, hv8⟩ := own_len ho8
    rw [lines_ab] at hv8
    subst hv8
    clear ho8
    go_wp2
    go_ret
    exact ⟨rfl, B8⟩

def synS : ByteArray := ⟨#[105, 110, 118, 97, 108, 105, 100, 32, 115, 121, 110, 116, 97, 120]⟩
def rngS : ByteArray := ⟨#[118, 97, 108, 117, 101, 32, 111, 117, 116, 32, 111, 102, 32, 114, 97, 110, 103, 101]⟩
/-- So many blocks has the settled world. -/
noncomputable def low : Nat := (World.holding Tryd.prog default ⟨#[], #[], []⟩).heap.size
/-- A world in which the three tables and the two errors hold what the program's text lays. -/
noncomputable def laidWorld (os : Os) : World :=
  let w0 := World.holding Tryd.prog os ⟨#[.cells #[.string synS] 81, .cells #[.string rngS] 81], #[], []⟩
  { w0 with heap := putAt (putAt (putAt (putAt (putAt w0.heap 4 (litVals Rows.laid_math_bits_deBruijn32tab)) 5 (litVals Rows.laid_math_bits_deBruijn64tab)) 2 (litVals Rows.laid_internal_strconv_uint64pow10)) 0 #[.iface 79 (.pointer (some ⟨low, 0, none⟩))]) 1 #[.iface 79 (.pointer (some ⟨low + 1, 0, none⟩))] }
theorem laid_met (os : Os) : laidMet Tryd.prog Rows.fnWordsRow.laid ((laidWorld os).forCall (fun _ _ => 0) ⟨#[], #[.slice none 0 0], []⟩).memory :=
  laidMet_of_run' 8 (by kernel_rfl) (by kernel_rfl)
theorem reads (os : Os) {H : Type} (enc : TypeId × Value → H) : ∃ places, DataW.whole enc Tryd.prog ((laidWorld os).forCall (fun _ _ => 0) ⟨#[], #[.slice none 0 0], []⟩).memory Tryd.f3.params.toList Rows.fnWordsSpec.vars false #[Value.slice none 0 0].toList 8 = some ([.nil], [], places) :=
  ⟨[], by kernel_rfl⟩

set_option maxRecDepth 100000 in
theorem lifted (os : Os) (started : os.Started) (H : Type) (enc : TypeId × Value → H) (F : Stop.Interp) :
    ReturnsInHanded {} Tryd.checked os 3 .any ((OpenSpec.ofChange Rows.fnWordsSpec).preRow enc Tryd.prog Tryd.f3 Rows.fnWordsRow.domain false Rows.fnWordsRow.laid) (((OpenSpec.ofChange Rows.fnWordsSpec).at F).post enc Tryd.prog Tryd.f3 false true false false) := by
  obtain ⟨places, hx⟩ := reads os enc
  refine returnsInHanded_of_row (C := Tryd.checked) (s := OpenSpec.ofChange Rows.fnWordsSpec) own started (by kernel_rfl) Tryd.func3
    (witness_row_at (enc := enc) (C := Tryd.checked) false (laidWorld os) #[.slice none 0 0] rfl (by kernel_rfl) (by kernel_rfl) (by kernel_rfl)
      (OpenSpec.preRow_of_cond 8 hx (by kernel_rfl) (fun k hk => by cases hk) (by kernel_rfl) (laid_met os))) ?_
  intro W base args ds gs before hval0 hW _ _ _ hL _ _
  have hval : ∀ (j : Nat) t v, Tryd.f3.params[j]? = some t → args[j]? = some v → Value.okWide Tryd.prog W .any base t v := hval0
  have hW' := hW
  obtain ⟨p, q, hA0, hV, rfl, _, _⟩ := hW
  have hA : DataW.TrodAll enc Tryd.prog W 0 (fun _ => true) true Tryd.f3.params.toList args.toList ds p := hA0
  rw [Tryd.params3] at hA hval
  obtain ⟨v0, vs0, d0, ds0, p0, q0, hargs, rfl, rfl, h0, r0⟩ := trodAll_cons hA
  obtain ⟨rfl, rfl, rfl⟩ := trodAll_nil r0
  obtain rfl : args = #[v0] := by cases args; simp_all
  obtain ⟨A0, n0, c0, rfl, g0⟩ := open_code_arg (hval 0 22 v0 rfl rfl) h0
  have hp : LibIs W := LibIs.of_laid (show laidMet Tryd.prog Rows.fnWordsRow.laid W from hL)
  refine (law A0 n0 c0 W g0 hp).mono fun e W' ⟨he, hb⟩ => ⟨_, he, ?_⟩
  exact law_post laidOut (by kernel_rfl) rfl (by kernel_rfl) Tryd.underlying4 rfl rfl rfl hW' hb

theorem said : Rows.FnWordsSaid :=
  OpenClaim.holds_of_cond 3 Tryd.f3 rfl rfl rfl rfl rfl rfl rfl ⟨rfl, rfl, rfl, rfl, rfl⟩ rfl rfl rfl rfl rfl (by kernel_rfl) Tryd.func3 (by kernel_rfl)
    (of_decide_eq_true (by kernel_rfl)) (by unfold Func.isWrapper; first | (rw [if_pos (by decide +kernel)]; kernel_rfl) | (rw [if_neg (by decide +kernel)]; exact ⟨rfl, rfl⟩))
    (fun os started H enc _ F => by rw [OpenClaim.pre_eq_preRow]; exact lifted os started H enc F)

theorem plain (f : FuncId) (fn : Func) (hf : Tryd.pinned.checked.prog.funcNamed "loop.example/g00831/laws.FnWords" = some f) (hfn : Tryd.pinned.checked.prog.funcs[f]? = some fn) :
    true = Tryd.pinned.checked.prog.looks [] ∧ ∀ (j : Nat) t, fn.params[j]? = some t → Tryd.pinned.checked.prog.wantsStandIn t = false := by
  obtain rfl : f = 3 := Option.some.inj ((show Tryd.prog.funcNamed "loop.example/g00831/laws.FnWords" = some 3 by kernel_rfl).symm.trans hf) |>.symm
  obtain rfl : fn = Tryd.f3 := (Option.some.inj (Tryd.func3.symm.trans hfn)).symm
  refine ⟨by kernel_rfl, fun j t ht => ?_⟩
  rw [Tryd.params3] at ht
  obtain rfl : t = 22 := by simpa using Array.mem_of_getElem? ht
  exact (show Tryd.prog.wantsStandIn 22 = false by kernel_rfl)

theorem card : Rows.FnWordsCardSaid :=
  Claim7.holds_tied_plain_at .later [] _ _ _ _ said (fun _ h => by cases h) (by kernel_rfl) (fun _ h => by cases h) fnWords_row_tie rfl ⟨rfl, rfl⟩ (by kernel_rfl) rfl plain (by kernel_rfl)

end lawWords
end Go.Proofs.YtpcmiohnhbaciaaDoor
