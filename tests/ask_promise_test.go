package tests

import (
	"cmp"
	"math/rand"
	"slices"
	"testing"

	"loop.example/g00366/impl"
)

// find: the Answers to a find with these Conds, and no more.
func find(l []impl.Event, conds []impl.Cond) []impl.Answer {
	return impl.Ask(l, impl.Query{Conds: conds, Limit: -1})
}

// sorted: these Answers by their Seqs.
func sorted(l []impl.Answer) []impl.Answer {
	return slices.SortedFunc(slices.Values(l), func(a impl.Answer, b impl.Answer) int { return cmp.Compare(a.Seq, b.Seq) })
}

// wantCounted: what is counted is as many as are found, and what is counted by a field comes to as many.
func wantCounted(t *testing.T, l []impl.Event, conds []impl.Cond) {
	t.Helper()
	found := int64(len(find(l, conds)))
	wantList(t, "count", impl.Ask(l, impl.Query{Count: true, Conds: conds, Limit: -1}), []impl.Answer{{N: found}})
	for _, field := range allFields() {
		var sum int64
		labels := map[string]bool{}
		for _, a := range impl.Ask(l, impl.Query{Count: true, Conds: conds, By: field, Limit: -1}) {
			if a.Seq != 0 || a.N < 1 || labels[a.Label] {
				t.Errorf("count by %s tells %+v", field, a)
			}
			labels[a.Label] = true
			sum += a.N
		}
		if sum != found {
			t.Errorf("count by %s comes to %d, of %d that are found", field, sum, found)
		}
	}
}

// wantFound: an order leaves which are found, and a limit leaves the first of them.
func wantFound(t *testing.T, l []impl.Event, conds []impl.Cond) {
	t.Helper()
	all := find(l, conds)
	for _, q := range eachEnd() {
		if q.Count {
			continue
		}
		q.Conds = conds
		got := impl.Ask(l, q)
		q.Limit = -1
		unlimited := impl.Ask(l, q)
		wantList(t, "in another order", sorted(unlimited), sorted(all))
		wantList(t, "the first ones", got, unlimited[:len(got)])
	}
	for limit := range int64(impl.MaxEvents + 1) {
		q := impl.Query{Conds: conds, Limit: limit}
		wantList(t, "as many as the limit has it", impl.Ask(l, q), all[:min(int(limit), len(all))])
	}
}

// wantFewer: one Cond more takes away, and gives none.
func wantFewer(t *testing.T, l []impl.Event, conds []impl.Cond) {
	t.Helper()
	if len(conds) == 0 {
		return
	}
	for place := range conds {
		fewer := slices.Delete(slices.Clone(conds), place, place+1)
		rest := find(l, fewer)
		for _, a := range find(l, conds) {
			at := slices.Index(rest, a)
			if at < 0 {
				t.Fatalf("%+v is found with %+v, but not without %+v", a, conds, conds[place])
			}
			// Those that are found stand in the order of the others: each is looked for behind the last one.
			rest = rest[at+1:]
		}
	}
}

// Promise 8.
func TestWhatIsCountedIsAsManyAsAreFound(t *testing.T) {
	source := rand.New(rand.NewSource(8))
	for _, l := range eventLists(source) {
		for size := range impl.MaxConds + 1 {
			for range 2 {
				conds := someConds(source, size)
				wantCounted(t, l, conds)
				wantFound(t, l, conds)
				wantFewer(t, l, conds)
			}
		}
	}
}

// Each Cond and the one that asks for the other half find all events between them, each once.
func TestACondAndItsOtherHalfFindAll(t *testing.T) {
	source := rand.New(rand.NewSource(84))
	other := map[string]string{"=": "!=", "!=": "=", "<": ">=", ">=": "<", ">": "<=", "<=": ">"}
	for _, l := range eventLists(source) {
		all := find(l, nil)
		for _, c := range eachCond() {
			half := c
			half.Op = other[c.Op]
			both := append(find(l, []impl.Cond{c}), find(l, []impl.Cond{half})...)
			wantList(t, written(asking(c)), sorted(both), sorted(all))
			wantNoList(t, "both halves at once", find(l, []impl.Cond{c, half}))
		}
	}
}
