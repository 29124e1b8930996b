package tests

import (
	"math"
	"math/rand"
	"slices"
	"testing"

	"loop.example/g00366/impl"
)

// plain: one step, from which nothing goes on, so that a run may end soon.
func plain() impl.Def {
	return impl.Def{Steps: []string{"only"}}
}

// ending: a run of plain, from its start to its end.
func ending(run int64, begun int64, end int64) []impl.Event {
	return []impl.Event{
		at(run, begun, impl.EvStart, ""),
		at(run, begun, impl.EvEnter, "only"),
		at(run, begun, impl.EvLeave, "only"),
		at(run, end, impl.EvEnd, ""),
	}
}

// serving: a Service of that Def with these events, with the least Next that is right.
func serving(d impl.Def, l ...impl.Event) impl.Service {
	s := impl.Service{Def: d, Events: l, Next: 1}
	for _, e := range l {
		s.Next = max(s.Next, e.Seq+1)
	}
	return s
}

// nextAt: that Service with another Next.
func nextAt(s impl.Service, next int64) impl.Service {
	s.Next = next
	return s
}

// serviceRight: what a right Service is, told over again.
func serviceRight(s impl.Service) bool {
	if !historyRight(s.Def, s.Events) || s.Next < 1 || s.Next > impl.MaxTime {
		return false
	}
	return !slices.ContainsFunc(s.Events, func(e impl.Event) bool { return e.Seq >= s.Next })
}

// ingested: what the document says of a batch, told over again: each event goes by all that its run had up to it.
func ingested(s impl.Service, l []impl.Event) impl.ServiceOut {
	if len(l) > impl.MaxList {
		return impl.ServiceOut{Code: impl.ErrSize}
	}
	if !serviceRight(s) || len(l) == 0 || len(l) > impl.MaxEvents {
		return impl.ServiceOut{Code: impl.ErrForm}
	}
	all := slices.Clone(s.Events)
	for i, e := range l {
		e.Seq = s.Next + int64(i)
		if e.Seq > impl.MaxTime {
			return impl.ServiceOut{Code: impl.ErrFull}
		}
		if !impl.EventRight(e) {
			return impl.ServiceOut{Many: int64(i), Code: impl.ErrForm}
		}
		if x := expected(s.Def, stateOf(s.Def, ownOf(all, e.Run)).State, e); x.Code != impl.OK {
			return impl.ServiceOut{Many: int64(i), Code: x.Code}
		}
		all = append(all, e)
	}
	next := s.Next + int64(len(l))
	if len(all) > impl.MaxEvents || next > impl.MaxTime {
		return impl.ServiceOut{Code: impl.ErrFull}
	}
	return impl.ServiceOut{Service: impl.Service{Def: s.Def, Events: all, Next: next}, Many: int64(len(l))}
}

// endedBy: the runs that have an EvEnd by then, told over again.
func endedBy(l []impl.Event, before int64) []int64 {
	return runNumbers(slices.DeleteFunc(slices.Clone(l), func(e impl.Event) bool {
		return e.Kind != impl.EvEnd || e.Time > before
	}))
}

// cleaned: what the document says of a cleaning, told over again.
func cleaned(s impl.Service, before int64) impl.ServiceOut {
	if !serviceRight(s) || before < 0 || before > impl.MaxTime {
		return impl.ServiceOut{Code: impl.ErrForm}
	}
	gone := endedBy(s.Events, before)
	s.Events = slices.DeleteFunc(slices.Clone(s.Events), func(e impl.Event) bool { return slices.Contains(gone, e.Run) })
	return impl.ServiceOut{Service: s, Many: int64(len(gone))}
}

func sameService(a impl.Service, b impl.Service) bool {
	return slices.Equal(a.Def.Steps, b.Def.Steps) && slices.Equal(a.Def.Flows, b.Def.Flows) &&
		slices.Equal(a.Events, b.Events) && a.Next == b.Next
}

func wantService(t *testing.T, what string, got impl.ServiceOut, want impl.ServiceOut) {
	t.Helper()
	if got.Code != want.Code || got.Many != want.Many || !sameService(got.Service, want.Service) {
		t.Errorf("%s: got %+v, want %+v", what, got, want)
	}
}

// wantRefused: that code and that Many, and beside them the zero Service.
func wantRefused(t *testing.T, what string, got impl.ServiceOut, code int64, many int64) {
	t.Helper()
	if got.Code != code || got.Many != many {
		t.Errorf("%s: got Code %d, Many %d, want Code %d, Many %d", what, got.Code, got.Many, code, many)
	}
	if !sameService(got.Service, impl.Service{}) {
		t.Errorf("%s: beside the code %d: got %+v, want the zero Service", what, got.Code, got.Service)
	}
}

func wantRightService(t *testing.T, what string, s impl.Service, want bool) {
	t.Helper()
	if got := impl.ServiceRight(s); got != want {
		t.Errorf("%s: got %t, want %t", what, got, want)
	}
}

// copiedService: that Service in lists of its own, with room behind its events that nobody may write to.
func copiedService(s impl.Service) impl.Service {
	return impl.Service{Def: copiedDef(s.Def), Events: roomy(s.Events), Next: s.Next}
}

func wantServiceAsItWas(t *testing.T, what string, given impl.Service, was impl.Service) {
	t.Helper()
	wantAsItWas(t, what, given.Events, was.Events)
	wantDefAsItWas(t, what, given.Def, copiedDef(was.Def))
}

// defTexts: all texts of a Def.
func defTexts(d impl.Def) []string {
	out := slices.Clone(d.Steps)
	for _, f := range d.Flows {
		out = append(out, f.From, f.To)
	}
	return out
}

// serviceTexts: all texts of a Service.
func serviceTexts(s impl.Service) []string {
	return append(defTexts(s.Def), eventTexts(s.Events)...)
}

// wipe writes over all lists of a Service, and over the room behind them.
func wipe(s impl.Service) {
	clear(s.Def.Steps[:cap(s.Def.Steps)])
	clear(s.Def.Flows[:cap(s.Def.Flows)])
	clear(s.Events[:cap(s.Events)])
}

// wantOwnService: a Service that was told shares nothing with these texts, and has each of its lists for itself.
func wantOwnService(t *testing.T, what string, told impl.Service, given []string) {
	t.Helper()
	wantApart(t, what, serviceTexts(told), given)
	was := copiedService(told)
	clear(told.Events[:cap(told.Events)])
	wantDefAsItWas(t, what+", its events wiped", copiedDef(told.Def), was.Def)
	clear(told.Def.Flows[:cap(told.Def.Flows)])
	if !slices.Equal(told.Def.Steps, was.Def.Steps) {
		t.Errorf("%s: Steps change with Flows", what)
	}
}

// someSeq: a number that an event of a batch may come with, right or not.
func someSeq(source *rand.Rand) int64 {
	return somePick[int64](source, 0, 1, 1, 2, 77, impl.MaxTime, impl.MaxTime+1, -1, math.MinInt64, math.MaxInt64)
}

// someService: a right one of that Def, of several runs, with room for more.
func someService(source *rand.Rand, d impl.Def) impl.Service {
	l := someHistory(source, d)
	s := serving(d, l[:source.Intn(len(l)+1)]...)
	s.Next = min(s.Next+somePick[int64](source, 0, 0, 1, 500), impl.MaxTime)
	return s
}

// someBatch: that many events at most that may happen behind those of the Service, one behind the other, of runs that
// it has and of others, with any Seqs.
func someBatch(source *rand.Rand, s impl.Service, size int) []impl.Event {
	all := slices.Clone(s.Events)
	runs := append(runNumbers(all), 4, 7, impl.MaxTime-2)
	var out []impl.Event
	for range size {
		run := somePick(source, runs...)
		state := stateOf(s.Def, ownOf(all, run)).State
		for _, e := range movesAt(source, s.Def, run, min(state.Last+somePick[int64](source, 0, 0, 1, 7), impl.MaxTime)) {
			if expected(s.Def, state, e).Code != impl.OK {
				continue
			}
			e.Seq = 1
			all = append(all, e)
			e.Seq = someSeq(source)
			out = append(out, e)
			break
		}
	}
	return out
}

// wrongServices: those that are not right, by what is wrong.
func wrongServices() map[string]impl.Service {
	alike, falls := beside(), beside()
	alike[5].Seq = alike[4].Seq
	falls[5].Seq = 1
	out := map[string]impl.Service{
		"the zero Service":             {},
		"no Next":                      nextAt(serving(loops()), 0),
		"a Next below 0":               nextAt(serving(loops()), -1),
		"a Next too far below":         nextAt(serving(loops()), math.MinInt64),
		"a Next too far":               nextAt(serving(loops()), impl.MaxTime+1),
		"a Next much too far":          nextAt(serving(loops()), math.MaxInt64),
		"a Next too far behind events": nextAt(serving(loops(), beside()...), impl.MaxTime+1),
		"Next is the last Seq":         nextAt(serving(loops(), beside()...), int64(len(beside()))),
		"Next is below the last Seq":   nextAt(serving(loops(), beside()...), int64(len(beside()))-1),
		"Next is the first Seq":        nextAt(serving(loops(), beside()...), 1),
		"no Next behind events":        nextAt(serving(loops(), beside()...), 0),
		"two Seqs alike":               serving(loops(), alike...),
		"a Seq that falls":             serving(loops(), falls...),
		"no start":                     serving(loops(), beside()[1:]...),
		"an event that is not right":   serving(loops(), append(beside(), impl.Event{Seq: 99, Time: 20, Run: 4})...),
		"a run that is refused":        serving(loops(), append(beside(), impl.Event{Seq: 99, Time: 20, Run: 3, Kind: impl.EvEnd})...),
		"one more than MaxEvents":      serving(loops(), spread(impl.MaxEvents+1)...),
		"as many as MaxList":           serving(loops(), spread(impl.MaxList)...),
		"more than MaxList":            serving(loops(), spread(impl.MaxList+1)...),
	}
	for what, d := range wrongDefs() {
		out[what] = impl.Service{Def: d, Next: 1}
		out[what+", with events"] = serving(d, beside()...)
	}
	return out
}
