package tests

import (
	"fmt"
	"slices"
	"testing"

	"loop.example/g01043/impl"
)

// TestToldLastHasTheLeastCost is for promise 11: the told last is allowed, no other one that is costs less, and none is told just if none is allowed.
func TestToldLastHasTheLeastCost(t *testing.T) {
	var n numbers
	told := 0
	for i := range int64(1000) {
		spread := []int64{3, 10, 40}[i%3]
		list, f := lastsOf(&n, i%31, 2000, 2000+spread), feetOf(&n, 1, 2000, 2000+spread)[0]
		w := randomFit(&n, spread)
		name := fmt.Sprint("last for ", f, " of ", list, " with ", w)
		at, code := impl.BestLast(list, f, w)
		isNotAllowed := func(x impl.Last) bool { _, ok := costOf(x, f, w); return !ok }
		if code != impl.OK {
			same(t, name, []any{at, code}, []any{int64(0), int64(impl.ErrTight)})
			same(t, "no "+name, slices.ContainsFunc(list, func(x impl.Last) bool { return !isNotAllowed(x) }), false)
			continue
		}
		told++
		same(t, "a refused "+name, isNotAllowed(list[at]), false)
		least, code := impl.FitCost(list[at], f, w)
		same(t, "code", code, int64(impl.OK))
		for _, x := range list {
			if cost, ok := costOf(x, f, w); ok && cost < least {
				t.Errorf("%s: %v costs %d, %v %d", name, list[at], least, x, cost)
			}
		}
	}
	if told < 200 || told > 900 {
		t.Errorf("a last is told for %d feet", told)
	}
}

// TestSoundPatternHasEqualSeams is for promise 11: a pattern is sound without any difference just if both edges of each seam are equal, all pieces are connected, and the told openings are left.
func TestSoundPatternHasEqualSeams(t *testing.T) {
	var n numbers
	var sound, unequal, other int
	for i, p := range patternsOf(&n, 120) {
		p = closeTo(&n, p, int64(i)%8/7)
		if i%3 > 0 {
			p.Openings = int64(len(openingsOf(p)))
		}
		equal := true
		for _, s := range p.Seams {
			equal = equal && p.Pieces[s.A].Edges[s.EdgeA] == p.Pieces[s.B].Edges[s.EdgeB]
		}
		left := int64(len(openingsOf(p))) == p.Openings
		connected := totalOf(partsOf(p)) == 0
		got, code := impl.IsSound(p, 0)
		same(t, fmt.Sprint("is sound: ", p), []any{got, code}, []any{equal && left && connected, int64(impl.OK)})
		switch {
		case got:
			sound++
			openings, _ := impl.OpeningsOf(p)
			same(t, "openings", len(openings), p.Openings)
		case !equal:
			unequal++
		case !left && connected:
			other++
		}
	}
	if sound < 50 || unequal < 50 || other < 50 {
		t.Errorf("%d patterns are sound, %d have seams that are not equal, %d have other openings", sound, unequal, other)
	}
}

// TestBestPlanIsWorthMost is for promise 11: no two pieces of the best plan have a field in common, all lie in fields that are good enough, and no other plan without a fault is worth more.
func TestBestPlanIsWorthMost(t *testing.T) {
	var n numbers
	for i, rows := range manyHides(&n, 20) {
		list := somePieces(&n, rows, 1+int64(i)%4, int64(i)/4)
		if planCount(rows, list) > 5000 {
			continue
		}
		name := fmt.Sprintf(" for %v on %q", list, rows)
		plan, worth, code := impl.BestPlan(rows, list)
		same(t, "code"+name, code, int64(impl.OK))
		same(t, "pieces"+name, len(plan), len(list))
		taken := map[[2]int64]int{}
		for k, at := range plan {
			if at < 0 {
				continue
			}
			for _, field := range coverOf(rows, list[k], at) {
				if other, is := taken[field]; is {
					t.Errorf("best plan %v%s: the pieces %d and %d have the field %v", plan, name, other, k, field)
				}
				taken[field] = k
				if field[0] >= int64(len(rows)) || field[1] >= int64(len(rows[0])) || qualityOf(rows[field[0]][field[1]]) < list[k].Quality {
					t.Errorf("best plan %v%s: the piece %d does not fit", plan, name, k)
				}
			}
		}
		same(t, "worth"+name, worth, worthOf(list, plan))
		eachPlan(rows, list, func(other []int64) {
			if worthOf(list, other) > worth {
				t.Errorf("best plan %v%s is worth %d, %v is worth %d", plan, name, worth, other, worthOf(list, other))
			}
		})
	}
}
