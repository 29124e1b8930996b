package tests

import (
	"slices"
	"strings"
	"testing"

	"loop.example/g00366/impl"
)

func TestStateLimits(t *testing.T) {
	got := [4]int64{impl.StNone, impl.StRunning, impl.StEnded, impl.MaxSteps}
	if want := [4]int64{0, 1, 2, 12}; got != want {
		t.Errorf("StNone, StRunning, StEnded, MaxSteps: got %d, want %d", got, want)
	}
}

func TestDefRight(t *testing.T) {
	for i, d := range shapes() {
		if !impl.DefRight(d) {
			t.Errorf("shape %d: not right", i)
		}
	}
	for what, d := range wrongDefs() {
		if impl.DefRight(d) {
			t.Errorf("%s: right", what)
		}
	}
}

func TestDefRightByHowManySteps(t *testing.T) {
	for _, size := range []int{0, 1, 2, impl.MaxSteps - 1, impl.MaxSteps, impl.MaxSteps + 1, 50} {
		want := size >= 1 && size <= impl.MaxSteps
		if got := impl.DefRight(impl.Def{Steps: stepNames(size)}); got != want {
			t.Errorf("%d Steps: got %t, want %t", size, got, want)
		}
	}
}

func TestDefRightByHowManyFlows(t *testing.T) {
	steps := stepNames(impl.MaxSteps)
	for _, size := range []int{0, 1, 39, 40, 41, 42, 144} {
		want := size <= 40
		if got := impl.DefRight(impl.Def{Steps: steps, Flows: manyFlows(steps, size)}); got != want {
			t.Errorf("%d Flows: got %t, want %t", size, got, want)
		}
	}
}

func TestDefRightOfNames(t *testing.T) {
	for _, step := range []string{"a", "z", "a_", "a0", strings.Repeat("z", 20), "a_9z"} {
		if !impl.DefRight(impl.Def{Steps: []string{step}, Flows: []impl.Flow{{From: step, To: step}}}) {
			t.Errorf("the Step %q: not right", step)
		}
	}
}

func TestDefRightOfFlowsNearlyAlike(t *testing.T) {
	d := impl.Def{Steps: []string{"a", "ab", "b"}, Flows: flows("a b", "ab b", "b a", "b ab", "a ab", "a a", "b b")}
	if !impl.DefRight(d) {
		t.Error("Flows of which no two are alike: not right")
	}
}

func TestDefRightLeavesItsLists(t *testing.T) {
	for _, d := range append(shapes(), impl.Def{Steps: []string{"z", "a", "z"}, Flows: flows("z a", "a q", "a a", "a a")}) {
		before := copiedDef(d)
		impl.DefRight(d)
		if !slices.Equal(d.Steps, before.Steps) || !slices.Equal(d.Flows, before.Flows) {
			t.Errorf("DefRight changed %v", before)
		}
	}
}
