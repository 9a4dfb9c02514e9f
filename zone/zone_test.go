package zone_test

import (
	"math"
	"slices"
	"testing"

	"zeitnot/api"
	"zeitnot/ident"
	"zeitnot/zone"
)

// made returns zones with the lists that are given, each from the bottom to the top.
func made(t *testing.T, lists ...[]int) *zone.Zones {
	t.Helper()
	z, e := zone.New(len(lists))
	if z == nil || e != api.OK {
		t.Fatalf("New(%d): %v, error %d", len(lists), z, e)
	}
	for n, l := range lists {
		for _, id := range l {
			if e := z.Put(id, n); e != api.OK {
				t.Fatalf("Put(%d, %d): error %d", id, n, e)
			}
		}
	}
	return z
}

// holds checks everything that can be asked of zones with the lists that are given; no id of them is above the last one that is given.
func holds(t *testing.T, z *zone.Zones, last int, lists ...[]int) {
	t.Helper()
	if z.Zones() != len(lists) {
		t.Errorf("Zones %d; want %d", z.Zones(), len(lists))
	}
	places := map[int]api.Place{}
	for n, want := range lists {
		if l := z.List(n); !slices.Equal(l, want) || z.Len(n) != len(want) {
			t.Errorf("zone %d: %d, Len %d; want %d", n, l, z.Len(n), want)
		}
		id, e := z.Top(n)
		if len(want) == 0 && (id != 0 || e != api.ErrNone) {
			t.Errorf("Top(%d): %d, error %d; want none", n, id, e)
		}
		if len(want) > 0 && (id != want[len(want)-1] || e != api.OK) {
			t.Errorf("Top(%d): %d, error %d; want the last one of %d", n, id, e, want)
		}
		for i, id := range want {
			places[id] = api.Place{Zone: n, Index: i}
		}
	}
	for id := 1; id <= last; id++ {
		want, in := places[id]
		err := api.ErrNone
		if in {
			err = api.OK
		}
		if p, e := z.Where(id); p != want || e != err {
			t.Errorf("Where(%d): %v, error %d; want %v, %d", id, p, e, want, err)
		}
	}
}

// is checks an error.
func is(t *testing.T, e, want api.Errno) {
	t.Helper()
	if e != want {
		t.Errorf("error %d; want %d", e, want)
	}
}

// put returns a list with one more id, before an index.
func put(l []int, index, id int) []int {
	with := []int{}
	for i, x := range l {
		if i == index {
			with = append(with, id)
		}
		with = append(with, x)
	}
	if index >= len(l) {
		with = append(with, id)
	}
	return with
}

// taken returns lists without an id.
func taken(lists [][]int, id int) [][]int {
	all := [][]int{}
	for _, l := range lists {
		left := []int{}
		for _, x := range l {
			if x != id {
				left = append(left, x)
			}
		}
		all = append(all, left)
	}
	return all
}

// in says whether an id is in one of some lists.
func in(lists [][]int, id int) bool {
	for _, l := range lists {
		if slices.Contains(l, id) {
			return true
		}
	}
	return false
}

// noIDs are numbers that are not ids.
var noIDs = []int{0, -1, -2, -4096, math.MinInt, math.MinInt + 1, ident.MaxID + 1, ident.MaxID + 2, 2 * ident.MaxID, math.MaxInt}

// noZones are numbers that no zones have, whichever there are.
var noZones = []int{-1, -2, zone.MaxZones, zone.MaxZones + 1, math.MinInt, math.MinInt + 1, math.MaxInt}

// P4.1, P4.2, P4.3: the calls of the chapter's examples, one after the other.
func TestExamples(t *testing.T) {
	z := made(t, nil, nil)
	is(t, z.Put(5, 0), api.OK)
	is(t, z.Put(2, 0), api.OK)
	is(t, z.Under(9, 0), api.OK)
	is(t, z.Put(5, 1), api.ErrBusy)
	holds(t, z, 10, []int{9, 5, 2}, nil)
	if p, e := z.Where(2); p != (api.Place{Zone: 0, Index: 2}) || e != api.OK {
		t.Errorf("Where(2): %v, error %d", p, e)
	}
	is(t, z.Move(5, 1), api.OK)
	is(t, z.Move(9, 0), api.OK)
	holds(t, z, 10, []int{2, 9}, []int{5})
	is(t, z.Remove(5), api.OK)
	holds(t, z, 10, []int{2, 9}, nil)
	is(t, z.Set(0, []int{9, 2}), api.OK)
	is(t, z.Set(0, []int{9, 9}), api.ErrCheck)
	is(t, z.Set(0, []int{9}), api.ErrCheck)
	is(t, z.Put(0, 0), api.ErrArg)
	is(t, z.Put(4097, 0), api.ErrArg)
	is(t, z.Put(1, 2), api.ErrArg)
	holds(t, z, 10, []int{9, 2}, nil)
	if z.Len(7) != 0 {
		t.Errorf("Len(7) %d; want 0", z.Len(7))
	}
	if none, e := zone.New(33); none != nil || e != api.ErrArg {
		t.Errorf("New(33): %v, error %d", none, e)
	}
}

// P4.1: there are as many zones as are asked for, all of them empty, from 1 to MaxZones.
func TestNew(t *testing.T) {
	for n := 1; n <= zone.MaxZones; n++ {
		holds(t, made(t, make([][]int, n)...), ident.MaxID, make([][]int, n)...)
	}
	for _, n := range []int{0, -1, zone.MaxZones + 1, zone.MaxZones + 2, math.MinInt, math.MaxInt} {
		if z, e := zone.New(n); z != nil || e != api.ErrArg {
			t.Errorf("New(%d): %v, error %d; want ErrArg", n, z, e)
		}
	}
}

// P4.1: all ids may be in the last of all zones, put to its top or to its bottom.
func TestAllIDs(t *testing.T) {
	up, down := made(t, make([][]int, zone.MaxZones)...), made(t, make([][]int, zone.MaxZones)...)
	lists, turned := make([][]int, zone.MaxZones), make([][]int, zone.MaxZones)
	last := zone.MaxZones - 1
	for i := range ident.MaxID {
		is(t, up.Put(i+1, last), api.OK)
		is(t, down.Under(i+1, last), api.OK)
		lists[last] = append(lists[last], i+1)
		turned[last] = append(turned[last], ident.MaxID-i)
	}
	holds(t, up, ident.MaxID, lists...)
	holds(t, down, ident.MaxID, turned...)
	is(t, up.Set(last, turned[last]), api.OK)
	holds(t, up, ident.MaxID, turned...)
}

// start is the lists from which all calls are tried; 8 and 9 are nowhere.
func start() [][]int {
	return [][]int{{4, 1, 7}, {}, {3}, {6, 2, 5}}
}

// P4.1, P4.4: Put and Under of every id to every zone, and nothing else changes.
func TestPutUnder(t *testing.T) {
	for id := 1; id <= 9; id++ {
		for n := range start() {
			busy := id < 8
			top, bottom := made(t, start()...), made(t, start()...)
			above, below := start(), start()
			want := api.ErrBusy
			if !busy {
				above[n] = put(above[n], len(above[n]), id)
				below[n] = put(below[n], 0, id)
				want = api.OK
			}
			is(t, top.Put(id, n), want)
			is(t, bottom.Under(id, n), want)
			holds(t, top, 10, above...)
			holds(t, bottom, 10, below...)
		}
	}
}

// P4.2, P4.4: Move of every id to every zone, and Remove of every id; the order of all others stays.
func TestMoveRemove(t *testing.T) {
	for id := 1; id <= 9; id++ {
		out := made(t, start()...)
		want := api.ErrNone
		if id < 8 {
			want = api.OK
		}
		is(t, out.Remove(id), want)
		holds(t, out, 10, taken(start(), id)...)
		is(t, out.Remove(id), api.ErrNone)
		holds(t, out, 10, taken(start(), id)...)
		for n := range start() {
			z, lists := made(t, start()...), taken(start(), id)
			if id < 8 {
				lists[n] = append(lists[n], id)
			}
			is(t, z.Move(id, n), want)
			holds(t, z, 10, lists...)
		}
	}
}

// P4.4: moving the id on the top to the same zone changes nothing, whichever zone it is.
func TestMoveTop(t *testing.T) {
	z := made(t, start()...)
	for n, l := range start() {
		if len(l) > 0 {
			is(t, z.Move(l[len(l)-1], n), api.OK)
			holds(t, z, 10, start()...)
		}
	}
}

// P4.1, P4.2: an id that was taken out may be put anywhere again.
func TestPutAgain(t *testing.T) {
	z := made(t, []int{1, 2, 3}, nil)
	is(t, z.Remove(3), api.OK)
	is(t, z.Remove(1), api.OK)
	holds(t, z, 4, []int{2}, nil)
	is(t, z.Under(3, 0), api.OK)
	is(t, z.Put(1, 1), api.OK)
	holds(t, z, 4, []int{3, 2}, []int{1})
	is(t, z.Under(3, 1), api.ErrBusy)
	is(t, z.Put(1, 0), api.ErrBusy)
	holds(t, z, 4, []int{3, 2}, []int{1})
}

// orders returns all lists of a length of the numbers from 0 to a greatest one.
func orders(length, most int) [][]int {
	if length == 0 {
		return [][]int{{}}
	}
	all := [][]int{}
	for _, l := range orders(length-1, most) {
		for x := range most + 1 {
			all = append(all, append(slices.Clone(l), x))
		}
	}
	return all
}

// P4.2, P4.4: Set takes just the orders of the ids of a zone, which every list of up to 4 small numbers shows.
func TestSet(t *testing.T) {
	for length := range 5 {
		for _, l := range orders(length, 4) {
			z := made(t, []int{4}, []int{1, 2, 3})
			given := slices.Clone(l)
			want, lists := api.ErrCheck, [][]int{{4}, {1, 2, 3}}
			sorted := slices.Clone(l)
			slices.Sort(sorted)
			if slices.Equal(sorted, []int{1, 2, 3}) {
				want, lists[1] = api.OK, slices.Clone(l)
			}
			is(t, z.Set(1, given), want)
			if !slices.Equal(given, l) {
				t.Errorf("Set has made %d of its list %d", given, l)
			}
			holds(t, z, 5, lists...)
		}
	}
}

// P4.2: what Set's list has is looked at for ErrCheck alone, also what is not an id, and an empty zone has one order.
func TestSetOther(t *testing.T) {
	z := made(t, []int{1, 2}, nil)
	for _, id := range append([]int{3, 4096}, noIDs...) {
		for _, l := range [][]int{{id, 1}, {2, id}, {id, id}, {id}, {1, 2, id}} {
			is(t, z.Set(0, l), api.ErrCheck)
		}
		is(t, z.Set(1, []int{id}), api.ErrCheck)
		is(t, z.Set(2, []int{id}), api.ErrArg)
	}
	is(t, z.Set(0, nil), api.ErrCheck)
	is(t, z.Set(1, []int{1}), api.ErrCheck)
	is(t, z.Set(1, nil), api.OK)
	is(t, z.Set(1, []int{}), api.OK)
	holds(t, z, 5, []int{1, 2}, nil)
	is(t, z.Set(0, []int{2, 1}), api.OK)
	holds(t, z, 5, []int{2, 1}, nil)
	is(t, z.Move(2, 1), api.OK)
	is(t, z.Set(0, []int{2, 1}), api.ErrCheck)
	holds(t, z, 5, []int{1}, []int{2})
}

// P4.1, P4.2, P4.3: numbers that are no ids and zones that there are not, in that order before any other error.
func TestArguments(t *testing.T) {
	z := made(t, []int{1, 2}, []int{3})
	for _, id := range noIDs {
		for _, n := range append([]int{0, 1, 2}, noZones...) {
			is(t, z.Put(id, n), api.ErrArg)
			is(t, z.Under(id, n), api.ErrArg)
			is(t, z.Move(id, n), api.ErrArg)
		}
		is(t, z.Remove(id), api.ErrArg)
		if p, e := z.Where(id); p != (api.Place{}) || e != api.ErrArg {
			t.Errorf("Where(%d): %v, error %d; want ErrArg", id, p, e)
		}
	}
	for _, n := range append([]int{2, 3}, noZones...) {
		for _, id := range []int{1, 3, 4, ident.MaxID} {
			is(t, z.Put(id, n), api.ErrArg)
			is(t, z.Under(id, n), api.ErrArg)
			is(t, z.Move(id, n), api.ErrArg)
		}
		for _, l := range [][]int{nil, {1, 2}, {1, 1}, {0}} {
			is(t, z.Set(n, l), api.ErrArg)
		}
		if id, e := z.Top(n); id != 0 || e != api.ErrArg {
			t.Errorf("Top(%d): %d, error %d; want ErrArg", n, id, e)
		}
		if l := z.List(n); len(l) != 0 || z.Len(n) != 0 {
			t.Errorf("zone %d: %d, Len %d; want none", n, l, z.Len(n))
		}
	}
	holds(t, z, 10, []int{1, 2}, []int{3})
}

// P4.1, P4.2, P4.3: nil and zero zones have no zone, and ErrNil comes before all other errors.
func TestNil(t *testing.T) {
	var none *zone.Zones
	for _, z := range []*zone.Zones{none, {}} {
		for _, id := range append([]int{1, ident.MaxID}, noIDs...) {
			for _, n := range append([]int{0, 1}, noZones...) {
				is(t, z.Put(id, n), api.ErrNil)
				is(t, z.Under(id, n), api.ErrNil)
				is(t, z.Move(id, n), api.ErrNil)
			}
			is(t, z.Remove(id), api.ErrNil)
			if p, e := z.Where(id); p != (api.Place{}) || e != api.ErrNil {
				t.Errorf("Where(%d): %v, error %d; want ErrNil", id, p, e)
			}
		}
		for _, n := range append([]int{0, 1}, noZones...) {
			is(t, z.Set(n, nil), api.ErrNil)
			is(t, z.Set(n, []int{1}), api.ErrNil)
			if id, e := z.Top(n); id != 0 || e != api.ErrNil {
				t.Errorf("Top(%d): %d, error %d; want ErrNil", n, id, e)
			}
			if l := z.List(n); len(l) != 0 || z.Len(n) != 0 {
				t.Errorf("zone %d: %d, Len %d; want none", n, l, z.Len(n))
			}
		}
		if z.Zones() != 0 || z.Copy() != nil {
			t.Errorf("Zones %d, Copy %v; want 0 and nil", z.Zones(), z.Copy())
		}
	}
}

// P4.3: a copy and the zones that it was made of go on independently, whatever was called before.
func TestCopy(t *testing.T) {
	calls := []func(z *zone.Zones) api.Errno{
		func(z *zone.Zones) api.Errno { return z.Put(8, 0) },
		func(z *zone.Zones) api.Errno { return z.Under(9, 0) },
		func(z *zone.Zones) api.Errno { return z.Move(4, 3) },
		func(z *zone.Zones) api.Errno { return z.Remove(1) },
		func(z *zone.Zones) api.Errno { return z.Remove(7) },
		func(z *zone.Zones) api.Errno { return z.Set(3, []int{5, 6, 2}) },
	}
	results := [][][]int{
		{{4, 1, 7, 8}, {}, {3}, {6, 2, 5}},
		{{9, 4, 1, 7}, {}, {3}, {6, 2, 5}},
		{{1, 7}, {}, {3}, {6, 2, 5, 4}},
		{{4, 7}, {}, {3}, {6, 2, 5}},
		{{4, 1}, {}, {3}, {6, 2, 5}},
		{{4, 1, 7}, {}, {3}, {5, 6, 2}},
	}
	for i, first := range calls {
		for k, second := range calls {
			z := made(t, start()...)
			c := z.Copy()
			is(t, first(z), api.OK)
			holds(t, z, 10, results[i]...)
			holds(t, c, 10, start()...)
			is(t, second(c), api.OK)
			holds(t, c, 10, results[k]...)
			holds(t, z, 10, results[i]...)
		}
	}
}

// P4.3: a copy of a list that was cut, and the list itself, grow apart.
func TestCopyCut(t *testing.T) {
	z := made(t, []int{1, 2, 3, 4, 5}, nil)
	is(t, z.Remove(5), api.OK)
	c := z.Copy()
	is(t, z.Put(6, 0), api.OK)
	is(t, c.Put(7, 0), api.OK)
	holds(t, z, 8, []int{1, 2, 3, 4, 6}, nil)
	holds(t, c, 8, []int{1, 2, 3, 4, 7}, nil)
	is(t, c.Move(1, 0), api.OK)
	holds(t, z, 8, []int{1, 2, 3, 4, 6}, nil)
	holds(t, c, 8, []int{2, 3, 4, 7, 1}, nil)
}

// P4.2, P4.3: what List returned, and what Set was given, is not shared with the zones, nor with another list.
func TestNoSharing(t *testing.T) {
	z := made(t, []int{1, 2, 3}, []int{4})
	spoil := func(l []int) {
		for i := range l {
			l[i] = 77
		}
		_ = append(l, 78)
	}
	given := append(make([]int, 0, 8), 3, 1, 2)
	is(t, z.Set(0, given), api.OK)
	spoil(given)
	holds(t, z, 5, []int{3, 1, 2}, []int{4})
	first, second := z.List(0), z.List(0)
	spoil(first)
	holds(t, z, 5, []int{3, 1, 2}, []int{4})
	if !slices.Equal(second, []int{3, 1, 2}) {
		t.Errorf("the second list is %d; want 3 1 2", second)
	}
	is(t, z.Put(5, 0), api.OK)
	is(t, z.Move(3, 0), api.OK)
	if !slices.Equal(second, []int{3, 1, 2}) {
		t.Errorf("the second list is %d; want 3 1 2", second)
	}
	holds(t, z, 5, []int{1, 2, 5, 3}, []int{4})
	_ = append(z.List(0), 79)
	is(t, z.Put(6, 0), api.OK)
	holds(t, z, 6, []int{1, 2, 5, 3, 6}, []int{4})
}

// numbers returns a function whose results are below a bound and hardly foreseeable, but the same every time.
func numbers(seed uint32) func(bound int) int {
	return func(bound int) int {
		seed = seed*1664525 + 1013904223
		return int(seed>>8) % bound
	}
}

// step does one call to zones, and the same one to lists, which it returns.
func step(t *testing.T, z *zone.Zones, lists [][]int, next func(int) int) [][]int {
	t.Helper()
	id, n, call := next(24)+1, next(len(lists)), next(6)
	there := in(lists, id)
	switch {
	case call == 0 && there:
		is(t, z.Put(id, n), api.ErrBusy)
	case call == 1 && there:
		is(t, z.Under(id, n), api.ErrBusy)
	case call == 0:
		is(t, z.Put(id, n), api.OK)
		lists[n] = put(lists[n], len(lists[n]), id)
	case call == 1:
		is(t, z.Under(id, n), api.OK)
		lists[n] = put(lists[n], 0, id)
	case call == 2 && there:
		is(t, z.Remove(id), api.OK)
		return taken(lists, id)
	case call == 2:
		is(t, z.Remove(id), api.ErrNone)
	case call == 3:
		turned := slices.Clone(lists[n])
		slices.Reverse(turned)
		is(t, z.Set(n, turned), api.OK)
		lists[n] = turned
	case there:
		is(t, z.Move(id, n), api.OK)
		lists = taken(lists, id)
		lists[n] = put(lists[n], len(lists[n]), id)
	default:
		is(t, z.Move(id, n), api.ErrNone)
	}
	return lists
}

// P4.4: after every one of many calls Where, List, Len and Top say the same as lists to which the same was done; a copy that is left alone stays.
func TestLongRuns(t *testing.T) {
	for run := range 40 {
		next := numbers(uint32(run) * 7919)
		lists := make([][]int, 1+run%7)
		z := made(t, lists...)
		for range 150 {
			c, before := z.Copy(), taken(lists, 0)
			lists = step(t, z, lists, next)
			holds(t, z, 26, lists...)
			holds(t, c, 26, before...)
			if t.Failed() {
				t.Fatalf("run %d", run)
			}
		}
	}
}
