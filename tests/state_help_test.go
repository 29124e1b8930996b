package tests

import (
	"math/rand"
	"reflect"
	"slices"
	"strconv"
	"strings"
	"testing"

	"loop.example/g00366/impl"
)

// flows: each written as its From, a blank and its To.
func flows(l ...string) []impl.Flow {
	var out []impl.Flow
	for _, text := range l {
		from, to, _ := strings.Cut(text, " ")
		out = append(out, impl.Flow{From: from, To: to})
	}
	return out
}

// stepNames: that many names, none of them in the order of texts but by chance.
func stepNames(size int) []string {
	var out []string
	for i := range size {
		out = append(out, "s"+strconv.Itoa((i*7+5)%997))
	}
	return out
}

// manyFlows: so many between these steps, no two alike, those of one step to all others first.
func manyFlows(steps []string, size int) []impl.Flow {
	var out []impl.Flow
	for _, from := range steps {
		for _, to := range steps {
			if len(out) < size {
				out = append(out, impl.Flow{From: from, To: to})
			}
		}
	}
	return out
}

// loops: a goes to itself and on to b and to c, b to c, and nothing from c; its first step is not the first of texts.
func loops() impl.Def {
	return impl.Def{Steps: []string{"b", "a", "c"}, Flows: flows("b c", "a a", "a c", "a b")}
}

// shapes: right Defs of many kinds.
func shapes() []impl.Def {
	twelve := stepNames(impl.MaxSteps)
	return []impl.Def{
		{Steps: []string{"only"}},
		{Steps: []string{"only"}, Flows: flows("only only")},
		{Steps: []string{"b", "a"}, Flows: flows("b a")},
		{Steps: []string{"a", "ab", "a_b", "a1"}, Flows: flows("a ab", "ab a_b", "a_b a1")},
		loops(),
		{Steps: stepNames(3), Flows: manyFlows(stepNames(3), 9)},
		{Steps: twelve},
		{Steps: twelve, Flows: manyFlows(twelve, 40)},
		{Steps: twelve, Flows: manyFlows(twelve[6:], 36)},
	}
}

// ordered: the steps in the order of texts.
func ordered(steps ...string) []string {
	slices.Sort(steps)
	return steps
}

// somePicked: so many of these steps, one as often as chance has it, in order.
func somePicked(source *rand.Rand, steps []string, size int) []string {
	var out []string
	for range size {
		out = append(out, steps[source.Intn(len(steps))])
	}
	return ordered(out...)
}

// someVars: so many Vars.
func someVars(size int) []impl.Var {
	var out []impl.Var
	for i := range size {
		out = append(out, impl.Var{Name: "v" + string(rune('a'+i)), Value: filled(i * 2)})
	}
	return out
}

// somePick: one of them.
func somePick[T any](source *rand.Rand, l ...T) T {
	return l[source.Intn(len(l))]
}

// someState: a right State of that Def.
func someState(source *rand.Rand, d impl.Def) impl.State {
	s := impl.State{Status: somePick[int64](source, impl.StRunning, impl.StRunning, impl.StRunning, impl.StRunning, impl.StEnded, impl.StNone)}
	if s.Status == impl.StNone {
		return s
	}
	s.Begun = somePick[int64](source, 0, 1, 500, impl.MaxTime)
	s.Last = somePick(source, s.Begun, min(s.Begun+1, impl.MaxTime), min(s.Begun+300, impl.MaxTime), impl.MaxTime)
	s.Vars = someVars(somePick(source, 0, 1, 2, 19, 20))
	s.Faults = somePick[int64](source, 0, 1, impl.MaxTime-1, impl.MaxTime)
	if s.Status == impl.StRunning {
		all := somePick(source, 0, 1, 2, 3, 10, 38, 39, 40)
		waiting := source.Intn(all + 1)
		s.Wait = somePicked(source, d.Steps, waiting)
		s.Busy = somePicked(source, d.Steps, all-waiting)
	}
	return s
}

// ev: a right event of a kind that has no Value.
func ev(time int64, kind int64, step string) impl.Event {
	return impl.Event{Seq: 1, Time: time, Run: 1, Kind: kind, Step: step}
}

// setting: a right event of the kind EvSet.
func setting(time int64, name string, value string) impl.Event {
	return impl.Event{Seq: 1, Time: time, Run: 1, Kind: impl.EvSet, Step: name, Value: value}
}

// eventsAt: one of each kind and each step, of a step and of names that are not there, and of no kind, at that time.
func eventsAt(d impl.Def, time int64) []impl.Event {
	out := []impl.Event{ev(time, impl.EvStart, ""), ev(time, impl.EvEnd, ""), ev(time, 7, "")}
	for _, step := range append(slices.Clone(d.Steps), "elsewhere") {
		out = append(out, ev(time, impl.EvEnter, step), ev(time, impl.EvLeave, step), ev(time, impl.EvFault, step))
	}
	for _, name := range []string{"va", "vb", "vt", "aa", "vbb", "zz"} {
		out = append(out, setting(time, name, ""), setting(time, name, filled(40)), setting(time, name, filled(41)))
	}
	return out
}

// copied: that State in lists of its own, with room behind each that nobody else may write to.
func copied(s impl.State) impl.State {
	s.Wait = append(make([]string, 0, len(s.Wait)+50), s.Wait...)
	s.Busy = append(make([]string, 0, len(s.Busy)+50), s.Busy...)
	s.Vars = append(make([]impl.Var, 0, len(s.Vars)+50), s.Vars...)
	return s
}

// copiedDef: that Def in lists of its own.
func copiedDef(d impl.Def) impl.Def {
	return impl.Def{Steps: slices.Clone(d.Steps), Flows: slices.Clone(d.Flows)}
}

func sameState(a impl.State, b impl.State) bool {
	return a.Status == b.Status && a.Begun == b.Begun && a.Last == b.Last && a.Faults == b.Faults &&
		slices.Equal(a.Wait, b.Wait) && slices.Equal(a.Busy, b.Busy) && slices.Equal(a.Vars, b.Vars)
}

func wantState(t *testing.T, what string, got impl.StateOut, want impl.StateOut) {
	t.Helper()
	if got.Code != want.Code || !sameState(got.State, want.State) {
		t.Errorf("%s: got %+v, want %+v", what, got, want)
	}
}

// wantCode: that code, and the zero State beside it.
func wantCode(t *testing.T, what string, got impl.StateOut, code int64) {
	t.Helper()
	if got.Code != code {
		t.Errorf("%s: got Code %d, want %d", what, got.Code, code)
	}
	if code != impl.OK && !reflect.DeepEqual(got.State, impl.State{}) {
		t.Errorf("%s: beside the code %d: got %+v, want the zero State", what, got.Code, got.State)
	}
}

// altered: that State with something else in it.
func altered(s impl.State, change func(*impl.State)) impl.State {
	s = copied(s)
	change(&s)
	return s
}

// wrongDefs: those that are not right, by what is wrong.
func wrongDefs() map[string]impl.Def {
	thirteen := stepNames(impl.MaxSteps + 1)
	seven := stepNames(7)
	out := map[string]impl.Def{
		"the zero Def":        {},
		"an empty list":       {Steps: []string{}, Flows: []impl.Flow{}},
		"no Steps but a Flow": {Flows: flows("a a")},
		"13 Steps":            {Steps: thirteen},
		"41 Flows":            {Steps: seven, Flows: manyFlows(seven, 41)},
		"two Steps alike":     {Steps: []string{"a", "a"}},
		"the last as the 1st": {Steps: []string{"a", "b", "c", "a"}},
		"two in the middle":   {Steps: []string{"a", "b", "c", "b", "d"}},
		"no From":             {Steps: []string{"a", "b"}, Flows: flows("c a")},
		"no To":               {Steps: []string{"a", "b"}, Flows: flows("a c")},
		"an empty From":       {Steps: []string{"a", "b"}, Flows: flows(" a")},
		"an empty To":         {Steps: []string{"a", "b"}, Flows: flows("a ")},
		"the last one's To":   {Steps: []string{"a", "b"}, Flows: flows("a b", "b a", "a a", "b c")},
		"the last one's From": {Steps: []string{"a", "b"}, Flows: flows("a b", "b a", "a a", "c b")},
		"two Flows alike":     {Steps: []string{"a", "b"}, Flows: flows("a b", "a b")},
		"Flows alike, apart":  {Steps: []string{"a", "b"}, Flows: flows("a b", "b a", "b b", "a b")},
		"401 Steps":           {Steps: stepNames(impl.MaxList + 1)},
		"401 Steps all alike": {Steps: slices.Repeat([]string{"a"}, impl.MaxList+1)},
		"401 Flows":           {Steps: []string{"a"}, Flows: slices.Repeat(flows("a a"), impl.MaxList+1)},
		"401 Flows, 21 Steps": {Steps: stepNames(21), Flows: manyFlows(stepNames(21), impl.MaxList+1)},
	}
	for _, step := range []string{"", "A", "_", "1a", "a b", "a-b", "aB", "é", "a\x00", strings.Repeat("a", 21), filled(9000)} {
		out["the first Step "+strconv.QuoteToASCII(step[:min(len(step), 25)])] = impl.Def{Steps: []string{step}}
		out["the last Step "+strconv.QuoteToASCII(step[:min(len(step), 25)])] = impl.Def{Steps: []string{"a", "b", step}}
	}
	return out
}
