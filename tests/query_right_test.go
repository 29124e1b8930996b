package tests

import (
	"math"
	"reflect"
	"slices"
	"testing"

	"loop.example/g00366/impl"
)

// asking: a Query of just these Conds.
func asking(l ...impl.Cond) impl.Query {
	return impl.Query{Conds: l, Limit: -1}
}

func TestQueryLimits(t *testing.T) {
	if impl.MaxConds != 6 {
		t.Errorf("MaxConds: got %d, want 6", impl.MaxConds)
	}
}

func TestQueryRightOfTheZeroQuery(t *testing.T) {
	wantRightQuery(t, impl.Query{}, true)
	wantRightQuery(t, impl.Query{Conds: []impl.Cond{}}, true)
	wantRightQuery(t, impl.Query{Count: true}, false)
	wantRightQuery(t, asking(impl.Cond{}), false)
}

func TestQueryRightOfEachCond(t *testing.T) {
	for _, c := range eachCond() {
		wantRightQuery(t, asking(c), true)
		wantRightQuery(t, impl.Query{Count: true, Conds: []impl.Cond{c}, Limit: -1}, true)
	}
}

func TestQueryRightOfCondsOfNumbers(t *testing.T) {
	for _, field := range numberFields() {
		for _, op := range numberOps() {
			for n, want := range map[int64]bool{math.MinInt64: false, -2: false, -1: false, 0: true, 1: true, impl.MaxTime - 1: true,
				impl.MaxTime: true, impl.MaxTime + 1: false, 1 << 32: false, 1<<40 + 5: false, math.MaxInt64: false} {
				wantRightQuery(t, asking(impl.Cond{Field: field, Op: op, N: n}), want)
				wantRightQuery(t, asking(impl.Cond{Field: field, Op: op, N: n, Word: "a"}), false)
			}
			for _, word := range append([]string{"5", "end", " ", "\x00"}, filled(9000)) {
				wantRightQuery(t, asking(impl.Cond{Field: field, Op: op, Word: word}), false)
			}
		}
		for _, op := range noOps() {
			wantRightQuery(t, asking(impl.Cond{Field: field, Op: op, N: 5}), false)
		}
	}
}

func TestQueryRightOfCondsOfWords(t *testing.T) {
	for _, field := range []string{"step", "value"} {
		for _, word := range someNames() {
			wantRightQuery(t, asking(impl.Cond{Field: field, Op: "=", Word: word}), true)
			wantRightQuery(t, asking(impl.Cond{Field: field, Op: "!=", Word: word}), true)
		}
	}
	for _, field := range wordFields() {
		for _, word := range noNames() {
			wantRightQuery(t, asking(impl.Cond{Field: field, Op: "=", Word: word}), false)
			wantRightQuery(t, asking(impl.Cond{Field: field, Op: "!=", Word: word}), false)
		}
		for _, op := range append(noOps(), "<", "<=", ">", ">=") {
			wantRightQuery(t, asking(impl.Cond{Field: field, Op: op, Word: "end"}), false)
		}
		for _, n := range []int64{math.MinInt64, -2, -1, 1, 2, impl.MaxTime, impl.MaxTime + 1, math.MaxInt64} {
			wantRightQuery(t, asking(impl.Cond{Field: field, Op: "=", Word: "end", N: n}), false)
			wantRightQuery(t, asking(impl.Cond{Field: field, Op: "=", N: n}), false)
		}
	}
}

func TestQueryRightOfKinds(t *testing.T) {
	for _, op := range []string{"=", "!="} {
		for kind := int64(impl.EvStart); kind <= impl.EvEnd; kind++ {
			wantRightQuery(t, asking(impl.Cond{Field: "kind", Op: op, Word: impl.KindText(kind)}), true)
		}
		for _, word := range []string{"", "a", "ends", "en", "Start", "started", "start ", "kind", "none", "entered", "1", "6", longWord(20)} {
			wantRightQuery(t, asking(impl.Cond{Field: "kind", Op: op, Word: word}), false)
		}
	}
}

func TestQueryRightOfWhatIsNoField(t *testing.T) {
	for _, field := range noFields() {
		wantRightQuery(t, asking(impl.Cond{Field: field, Op: "=", N: 1}), false)
		wantRightQuery(t, asking(impl.Cond{Field: field, Op: "=", Word: "a"}), false)
		wantRightQuery(t, asking(impl.Cond{Field: field, Op: "=", Word: "end"}), false)
		wantRightQuery(t, asking(impl.Cond{Field: field, Op: "="}), false)
		if field != "" {
			wantRightQuery(t, impl.Query{Count: true, By: field, Limit: -1}, false)
			wantRightQuery(t, impl.Query{Order: field, Limit: -1}, false)
			wantRightQuery(t, impl.Query{Order: field, Down: true, Limit: 5}, false)
		}
	}
	for _, field := range wordFields() {
		wantRightQuery(t, impl.Query{Order: field, Limit: -1}, false)
		wantRightQuery(t, impl.Query{Order: field, Down: true, Limit: -1}, false)
	}
}

func TestQueryRightByHowManyConds(t *testing.T) {
	conds := eachCond()
	wrong := []impl.Cond{{}, {Field: "seq", Op: "=", N: -1}, {Field: "kind", Op: "=", Word: "a"}, {Field: "step", Op: "<", Word: "a"}}
	for size := range 2*impl.MaxConds + 1 {
		l := conds[size : 2*size]
		wantRightQuery(t, asking(l...), size <= impl.MaxConds)
		wantRightQuery(t, impl.Query{Count: true, Conds: l, By: "step", Limit: -1}, size <= impl.MaxConds)
		wantRightQuery(t, asking(slices.Repeat(conds[:1], size)...), size <= impl.MaxConds)
		for place := range l {
			for _, c := range wrong {
				spoilt := slices.Clone(l)
				spoilt[place] = c
				wantRightQuery(t, asking(spoilt...), false)
			}
		}
	}
	for _, size := range []int{impl.MaxEvents, impl.MaxList, impl.MaxList + 1, 5000} {
		wantRightQuery(t, asking(slices.Repeat(conds[:1], size)...), false)
	}
}

func TestQueryRightOfEachShape(t *testing.T) {
	words := append(allFields(), "", "Seq", "desc")
	for _, count := range []bool{false, true} {
		for _, by := range words {
			for _, order := range words {
				for _, down := range []bool{false, true} {
					for _, limit := range []int64{math.MinInt64, -2, -1, 0, 1, impl.MaxEvents - 1, impl.MaxEvents, impl.MaxEvents + 1, 1 << 32, math.MaxInt64} {
						q := impl.Query{Count: count, By: by, Order: order, Down: down, Limit: limit}
						wantRightQuery(t, q, queryRight(q))
					}
				}
			}
		}
	}
}

func TestQueryRightOfWhatMayNotStandTogether(t *testing.T) {
	for _, field := range numberFields() {
		wantRightQuery(t, impl.Query{Count: true, By: field, Limit: -1}, true)
		wantRightQuery(t, impl.Query{By: field, Limit: -1}, false)
		wantRightQuery(t, impl.Query{Order: field, Limit: -1}, true)
		wantRightQuery(t, impl.Query{Count: true, Order: field, Limit: -1}, false)
		wantRightQuery(t, impl.Query{Order: field, Down: true, Limit: -1}, true)
		wantRightQuery(t, impl.Query{By: field, Order: field, Limit: -1}, false)
		wantRightQuery(t, impl.Query{Count: true, By: field, Order: field, Limit: -1}, false)
		wantRightQuery(t, impl.Query{Count: true, By: field, Down: true, Limit: -1}, false)
	}
	wantRightQuery(t, impl.Query{Down: true, Limit: -1}, false)
	wantRightQuery(t, impl.Query{Count: true, Down: true, Limit: -1}, false)
	for limit, want := range map[int64]bool{-2: false, -1: true, 0: true, impl.MaxEvents: true, impl.MaxEvents + 1: false} {
		wantRightQuery(t, impl.Query{Limit: limit}, want)
		wantRightQuery(t, impl.Query{Count: true, Limit: limit}, limit == -1)
		wantRightQuery(t, impl.Query{Count: true, By: "run", Limit: limit}, limit == -1)
	}
}

func TestQueryRightLeavesItsList(t *testing.T) {
	conds := eachCond()
	given := asking(slices.Clone(conds[:5])...)
	impl.QueryRight(given)
	given.Conds = given.Conds[:3]
	impl.QueryRight(given)
	if !reflect.DeepEqual(given.Conds[:5], conds[:5]) {
		t.Errorf("QueryRight changed what it was given")
	}
}
