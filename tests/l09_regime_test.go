package tests

import (
	"math"
	"testing"

	"loop.example/g00831/impl"
)

func regime(gap int) impl.Regime { return impl.Regime{Gap: gap} }

func fog(gap int) impl.Regime { return impl.Regime{Gap: gap, NoMeet: true} }

func badRegimes() []impl.Regime {
	var list []impl.Regime
	for _, gap := range []int{math.MinInt, math.MinInt + 1, -60, -1, 61, 62, math.MaxInt - 1, math.MaxInt} {
		list = append(list, regime(gap), fog(gap))
	}
	return list
}

func checkRegimeOk(t *testing.T, r impl.Regime, want bool) {
	t.Helper()
	if got := impl.RegimeOk(r); got != want {
		t.Errorf("RegimeOk(%+v) is %v", r, got)
	}
}

func checkStricter(t *testing.T, a impl.Regime, b impl.Regime, want bool) {
	t.Helper()
	if got := impl.StricterRegime(a, b); got != want {
		t.Errorf("StricterRegime(%+v, %+v) is %v", a, b, got)
	}
}

func checkConflictName(t *testing.T, code int, want string) {
	t.Helper()
	if got := impl.ConflictName(code); got != want {
		t.Errorf("ConflictName(%d) is %q, want %q", code, got, want)
	}
}

func TestRuleConstants(t *testing.T) {
	codes := [5]int{impl.CfNone, impl.CfSame, impl.CfMeet, impl.CfGap, impl.CfPass}
	if impl.MaxGap != 60 || codes != [5]int{0, 1, 2, 3, 4} {
		t.Errorf("MaxGap %d, codes %v", impl.MaxGap, codes)
	}
}

func TestRegimeOk(t *testing.T) {
	for _, gap := range append(endsAround(0, 60), -60, -1, 0, 10, 59, 60, 61) {
		checkRegimeOk(t, regime(gap), within(gap, 0, 60))
		checkRegimeOk(t, fog(gap), within(gap, 0, 60))
	}
	for gap := -200; gap <= 200; gap++ {
		checkRegimeOk(t, regime(gap), within(gap, 0, 60))
		checkRegimeOk(t, fog(gap), within(gap, 0, 60))
	}
	for _, r := range badRegimes() {
		checkRegimeOk(t, r, false)
	}
	checkRegimeOk(t, impl.Regime{}, true)
}

func TestStricterRegime(t *testing.T) {
	checkStricter(t, regime(10), regime(10), true)
	checkStricter(t, fog(10), fog(10), true)
	checkStricter(t, fog(10), regime(10), true)
	checkStricter(t, regime(10), fog(10), false)
	checkStricter(t, regime(11), regime(10), true)
	checkStricter(t, regime(9), regime(10), false)
	checkStricter(t, fog(9), regime(10), false)
	checkStricter(t, regime(60), fog(0), false)
	checkStricter(t, impl.Regime{}, impl.Regime{}, true)
}

func TestStricterRegimeOfEveryTwo(t *testing.T) {
	for a := range 61 {
		for b := range 61 {
			checkStricter(t, regime(a), regime(b), a >= b)
			checkStricter(t, fog(a), regime(b), a >= b)
			checkStricter(t, fog(a), fog(b), a >= b)
			checkStricter(t, regime(a), fog(b), false)
		}
	}
}

// A regime that is not valid is not even as strict as itself.
func TestStricterRegimeRefuses(t *testing.T) {
	for _, bad := range badRegimes() {
		for _, r := range []impl.Regime{regime(0), regime(10), regime(60), fog(0), fog(10), fog(60)} {
			checkStricter(t, bad, r, false)
			checkStricter(t, r, bad, false)
		}
		for _, other := range badRegimes() {
			checkStricter(t, bad, other, false)
		}
	}
}

func TestConflictName(t *testing.T) {
	names := map[int]string{impl.CfNone: "none", impl.CfSame: "same", impl.CfMeet: "meet", impl.CfGap: "gap", impl.CfPass: "pass"}
	for code := -300; code <= 300; code++ {
		checkConflictName(t, code, names[code])
	}
	for _, code := range []int{math.MinInt, math.MinInt + 1, math.MinInt + 4, math.MaxInt - 1, math.MaxInt} {
		checkConflictName(t, code, "")
	}
}
