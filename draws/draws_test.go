package draws_test

import (
	"math"
	"math/big"
	"slices"
	"testing"

	"zeitnot/api"
	"zeitnot/draws"
)

const (
	greatest = math.MaxInt
	least    = math.MinInt
	top      = math.MaxUint64
)

// made returns draws of some numbers, which must be allowed.
func made(t *testing.T, l ...uint64) *draws.Draws {
	t.Helper()
	d, e := draws.New(l)
	if d == nil || e != api.OK {
		t.Fatalf("New of %d numbers: %v, error %d", len(l), d, e)
	}
	return d
}

// holds checks how many numbers were used, and which ones are left.
func holds(t *testing.T, d *draws.Draws, used int, rest ...uint64) {
	t.Helper()
	if d.Used() != used || d.Left() != len(rest) || !slices.Equal(d.Rest(), rest) {
		t.Errorf("used %d, left %d, rest %d; want %d, %d, %d", d.Used(), d.Left(), d.Rest(), used, len(rest), rest)
	}
}

// tuples calls a function with every list of choices, of which the one with the index i is below bounds[i].
func tuples(bounds []int, f func([]uint64)) {
	l := make([]uint64, len(bounds))
	var fill func(i int)
	fill = func(i int) {
		if i == len(l) {
			f(slices.Clone(l))
			return
		}
		for n := range bounds[i] {
			l[i] = uint64(n)
			fill(i + 1)
		}
	}
	fill(0)
}

// upTo returns the numbers below a bound.
func upTo(bound int) []int {
	var l []int
	for i := range bound {
		l = append(l, i)
	}
	return l
}

// remainder is computed with integers of any size.
func remainder(n uint64, bound int) int {
	x := new(big.Int).SetUint64(n)
	return int(x.Mod(x, big.NewInt(int64(bound))).Int64())
}

// shuffled is the list that a shuffle with some numbers leaves: its end is filled first.
func shuffled(l []int, numbers []uint64) []int {
	rest, out := slices.Clone(l), []int{}
	for i := 0; len(rest) > 1; i++ {
		last := len(rest) - 1
		j := remainder(numbers[i], len(rest))
		out = append([]int{rest[j]}, out...)
		rest[j] = rest[last]
		rest = rest[:last]
	}
	return append(rest, out...)
}

// picked are the numbers that are picked with some numbers, found by counting those that are not taken.
func picked(many, bound int, numbers []uint64) []int {
	taken := make([]bool, bound)
	for i := range many {
		j := remainder(numbers[i], bound-i)
		for n := range bound {
			if taken[n] {
				continue
			}
			if j == 0 {
				taken[n] = true
				break
			}
			j--
		}
	}
	var l []int
	for n, is := range taken {
		if is {
			l = append(l, n)
		}
	}
	return l
}

// P2.1: as many numbers as are allowed, and one more.
func TestNew(t *testing.T) {
	for _, n := range []int{0, 1, 2, draws.MaxDraws - 1, draws.MaxDraws} {
		l := make([]uint64, n)
		for i := range l {
			l[i] = top - uint64(i)
		}
		holds(t, made(t, l...), 0, l...)
	}
	for _, n := range []int{draws.MaxDraws + 1, 2 * draws.MaxDraws} {
		if d, e := draws.New(make([]uint64, n)); d != nil || e != api.ErrLong {
			t.Errorf("New of %d numbers: %v, error %d", n, d, e)
		}
	}
}

// P2.1: draws of no numbers are not zero, whether their list is nil or empty.
func TestNewOfNothing(t *testing.T) {
	for _, l := range [][]uint64{nil, {}} {
		d := made(t, l...)
		holds(t, d, 0)
		if n, e := d.Next(1); n != 0 || e != api.ErrEnd {
			t.Errorf("Next(1) = %d, error %d", n, e)
		}
		for _, list := range [][]int{nil, {}, {-9}} {
			if x, e := d.Shuffle(list); !slices.Equal(x, list) || e != api.OK {
				t.Errorf("Shuffle(%d) = %d, error %d", list, x, e)
			}
		}
		for _, bound := range []int{0, 1, draws.MaxDraws} {
			if x, e := d.Pick(0, bound); len(x) != 0 || e != api.OK {
				t.Errorf("Pick(0, %d) = %d, error %d", bound, x, e)
			}
		}
		c := d.Copy()
		if c == nil {
			t.Fatal("Copy of draws without numbers is nil")
		}
		if _, e := c.Next(1); e != api.ErrEnd {
			t.Errorf("Next(1) of the copy: error %d", e)
		}
	}
}

// P2.1: the chapter's examples, the greatest numbers and bounds, and the bounds that are not allowed.
func TestNext(t *testing.T) {
	d := made(t, 7, 12, 5, top, top, 1<<63, 1<<32, 1<<32-1, 99)
	for i, c := range []struct {
		bound, want int
		e           api.Errno
		used        int
	}{
		{10, 7, api.OK, 1}, {10, 2, api.OK, 2}, {0, 0, api.ErrArg, 2}, {-1, 0, api.ErrArg, 2}, {least, 0, api.ErrArg, 2},
		{draws.MaxBound + 1, 0, api.ErrArg, 2}, {greatest, 0, api.ErrArg, 2}, {1, 0, api.OK, 3},
		{draws.MaxBound, 1<<32 - 1, api.OK, 4}, {10, 5, api.OK, 5}, {3, 2, api.OK, 6}, {draws.MaxBound, 0, api.OK, 7},
		{draws.MaxBound - 1, 0, api.OK, 8}, {100, 99, api.OK, 9}, {100, 0, api.ErrEnd, 9}, {draws.MaxBound, 0, api.ErrEnd, 9},
		{0, 0, api.ErrArg, 9}, {draws.MaxBound + 1, 0, api.ErrArg, 9},
	} {
		if n, e := d.Next(c.bound); n != c.want || e != c.e || d.Used() != c.used || d.Left() != 9-c.used {
			t.Errorf("%d: Next(%d) = %d, error %d, used %d, left %d; want %d, error %d, used %d", i, c.bound, n, e, d.Used(), d.Left(), c.want, c.e, c.used)
		}
	}
}

// P2.1 and P2.4: remainders of unsigned numbers, each below its bound.
func TestChoices(t *testing.T) {
	numbers := []uint64{0, 1, 2, 3, 9, 10, 11, 1<<31 - 1, 1 << 31, 1<<32 - 1, 1 << 32, 1<<32 + 1, 1<<63 - 1, 1 << 63, 1<<63 + 1, top - 1, top}
	for _, n := range numbers {
		for _, bound := range []int{1, 2, 3, 7, 10, 255, 256, 1 << 16, 1<<31 - 1, 1 << 31, draws.MaxBound - 1, draws.MaxBound} {
			d := made(t, n)
			got, e := d.Next(bound)
			if got != remainder(n, bound) || e != api.OK || got < 0 || got >= bound {
				t.Errorf("%d below %d is %d, error %d; want %d", n, bound, got, e, remainder(n, bound))
			}
			holds(t, d, 1)
		}
	}
}

// P2.2: the chapter's example, short lists, and lists with equal and with extreme elements.
func TestShuffle(t *testing.T) {
	for i, c := range []struct {
		numbers []uint64
		l, want []int
	}{
		{[]uint64{5, 100, 3}, []int{10, 20, 30, 40}, []int{10, 30, 40, 20}},
		{[]uint64{0, 0, 0}, []int{10, 20, 30, 40}, []int{20, 30, 40, 10}},
		{[]uint64{3, 2, 1}, []int{10, 20, 30, 40}, []int{10, 20, 30, 40}},
		{[]uint64{1, 0}, []int{1, 2, 3}, []int{3, 1, 2}},
		{[]uint64{top, top}, []int{1, 2, 3}, []int{3, 2, 1}},
		{nil, nil, nil}, {nil, []int{}, nil}, {nil, []int{7}, []int{7}},
		{[]uint64{0}, []int{7, 8}, []int{8, 7}}, {[]uint64{1}, []int{7, 8}, []int{7, 8}}, {[]uint64{2}, []int{7, 8}, []int{8, 7}},
		{[]uint64{0, 1}, []int{4, 4, 4}, []int{4, 4, 4}},
		{[]uint64{0, 0}, []int{greatest, least, -1}, []int{least, -1, greatest}},
	} {
		before := slices.Clone(c.l)
		d := made(t, append(slices.Clone(c.numbers), 77)...)
		if x, e := d.Shuffle(c.l); !slices.Equal(x, c.want) || e != api.OK {
			t.Errorf("%d: Shuffle(%d) with %d = %d, error %d; want %d", i, c.l, c.numbers, x, e, c.want)
		}
		if !slices.Equal(c.l, before) {
			t.Errorf("%d: Shuffle has changed its list %d to %d", i, before, c.l)
		}
		holds(t, d, len(c.numbers), 77)
	}
}

// P2.2: with too few numbers none is used; a list that is too long is found first.
func TestShuffleErrors(t *testing.T) {
	d := made(t, 4, 5, 6)
	for _, c := range []struct {
		n int
		e api.Errno
	}{{5, api.ErrEnd}, {6, api.ErrEnd}, {draws.MaxDraws, api.ErrEnd}, {draws.MaxDraws + 1, api.ErrLong}, {2 * draws.MaxDraws, api.ErrLong}} {
		if x, e := d.Shuffle(make([]int, c.n)); len(x) != 0 || e != c.e {
			t.Errorf("Shuffle of %d elements = %d elements, error %d; want error %d", c.n, len(x), e, c.e)
		}
		holds(t, d, 0, 4, 5, 6)
	}
	if x, e := d.Shuffle(upTo(4)); !slices.Equal(x, []int{1, 3, 2, 0}) || e != api.OK {
		t.Errorf("Shuffle of 4 elements with 3 numbers = %d, error %d", x, e)
	}
	holds(t, d, 3)
	all := made(t, make([]uint64, draws.MaxDraws)...)
	if x, e := all.Shuffle(make([]int, draws.MaxDraws+1)); len(x) != 0 || e != api.ErrLong {
		t.Errorf("%d elements, error %d", len(x), e)
	}
	holds(t, all, 0, make([]uint64, draws.MaxDraws)...)
}

// P2.2: the longest list, and the most numbers to pick.
func TestGreatestLists(t *testing.T) {
	numbers := make([]uint64, draws.MaxDraws)
	for i := range numbers {
		numbers[i] = uint64(i) * 0x9E3779B97F4A7C15
	}
	l := upTo(draws.MaxDraws)
	d := made(t, numbers...)
	x, e := d.Shuffle(l)
	if e != api.OK || d.Left() != 1 || slices.Equal(x, l) {
		t.Errorf("error %d, left %d", e, d.Left())
	}
	if slices.Sort(x); !slices.Equal(x, l) {
		t.Error("the elements are not the same")
	}
	d = made(t, numbers...)
	if x, e = d.Pick(draws.MaxDraws, draws.MaxDraws); e != api.OK || d.Left() != 0 || !slices.Equal(x, l) {
		t.Errorf("%d numbers, error %d, left %d", len(x), e, d.Left())
	}
	d = made(t, numbers...)
	if x, e = d.Pick(30, draws.MaxDraws); e != api.OK || d.Left() != draws.MaxDraws-30 || !slices.Equal(x, picked(30, draws.MaxDraws, numbers)) {
		t.Errorf("%d, error %d, left %d", x, e, d.Left())
	}
}

// P2.2: the chapter's examples, none and all of the numbers, and what is not allowed; with an error nothing is used.
func TestPick(t *testing.T) {
	for i, c := range []struct {
		numbers     []uint64
		many, bound int
		want        []int
		e           api.Errno
	}{
		{[]uint64{5, 0, 1}, 2, 4, []int{0, 1}, api.OK}, {[]uint64{1}, 0, 0, nil, api.OK}, {[]uint64{1}, 1, 0, nil, api.ErrArg}, {[]uint64{1}, 2, 4, nil, api.ErrEnd},
		{[]uint64{0, 0, 0}, 3, 3, []int{0, 1, 2}, api.OK}, {[]uint64{2, 1, 0}, 3, 3, []int{0, 1, 2}, api.OK},
		{[]uint64{1, 1}, 2, 5, []int{1, 2}, api.OK}, {[]uint64{3, 2}, 2, 4, []int{2, 3}, api.OK}, {[]uint64{4, 0}, 2, 5, []int{0, 4}, api.OK},
		{[]uint64{0, 3}, 2, 5, []int{0, 4}, api.OK}, {[]uint64{2, 2, 2}, 3, 5, []int{2, 3, 4}, api.OK}, {[]uint64{4, 4}, 2, 5, []int{0, 4}, api.OK},
		{[]uint64{top}, 1, 10, []int{5}, api.OK}, {[]uint64{top}, 1, draws.MaxDraws, []int{draws.MaxDraws - 1}, api.OK}, {[]uint64{9}, 1, 1, []int{0}, api.OK},
		{nil, 0, draws.MaxDraws, nil, api.OK}, {nil, 0, 5, nil, api.OK}, {nil, 1, 5, nil, api.ErrEnd}, {nil, draws.MaxDraws, draws.MaxDraws, nil, api.ErrEnd},
		{nil, 0, -1, nil, api.ErrArg}, {nil, -1, 0, nil, api.ErrArg}, {nil, -1, -1, nil, api.ErrArg}, {nil, 0, draws.MaxDraws + 1, nil, api.ErrArg},
		{nil, draws.MaxDraws + 1, draws.MaxDraws + 1, nil, api.ErrArg}, {nil, 6, 5, nil, api.ErrArg}, {nil, -1, 5, nil, api.ErrArg},
		{nil, greatest, greatest, nil, api.ErrArg}, {nil, least, 5, nil, api.ErrArg}, {nil, 0, least, nil, api.ErrArg}, {nil, greatest, 5, nil, api.ErrArg}, {nil, least, least, nil, api.ErrArg},
		{[]uint64{1, 2, 3}, 4, 3, nil, api.ErrArg}, {[]uint64{1, 2, 3}, 4, 4, nil, api.ErrEnd}, {[]uint64{1, 2, 3}, 0, -1, nil, api.ErrArg},
	} {
		d := made(t, c.numbers...)
		if x, e := d.Pick(c.many, c.bound); !slices.Equal(x, c.want) || e != c.e {
			t.Errorf("%d: Pick(%d, %d) with %d = %d, error %d; want %d, error %d", i, c.many, c.bound, c.numbers, x, e, c.want, c.e)
		}
		used := len(c.want)
		holds(t, d, used, c.numbers[used:]...)
	}
}

// P2.2 and P2.4: every way to pick from few numbers; the picked ones are different, below the bound and in order, and each set of them is found.
func TestAllPicks(t *testing.T) {
	for bound := range 6 {
		for many := range bound + 1 {
			var bounds []int
			for i := range many {
				bounds = append(bounds, bound-i)
			}
			sets, ways := map[string]int{}, 0
			tuples(bounds, func(numbers []uint64) {
				ways++
				got, e := made(t, numbers...).Pick(many, bound)
				if e != api.OK || !slices.Equal(got, picked(many, bound, numbers)) {
					t.Errorf("Pick(%d, %d) with %d = %d, error %d", many, bound, numbers, got, e)
				}
				key := ""
				for i, n := range got {
					if n < 0 || n >= bound || i > 0 && got[i-1] >= n {
						t.Errorf("Pick(%d, %d) with %d = %d", many, bound, numbers, got)
					}
					key += string(rune('0' + n))
				}
				sets[key]++
			})
			for key, n := range sets {
				if n*len(sets) != ways {
					t.Errorf("Pick(%d, %d) is %s in %d of %d ways, and there are %d sets", many, bound, key, n, ways, len(sets))
				}
			}
			if want := int(new(big.Int).Binomial(int64(bound), int64(many)).Int64()); len(sets) != want {
				t.Errorf("Pick(%d, %d) has %d sets, want %d", many, bound, len(sets), want)
			}
		}
	}
}

// P2.2 and P2.4: every shuffle of a short list; there is exactly one list of choices for each order, and the elements stay the same.
func TestAllShuffles(t *testing.T) {
	factorial := 1
	for n := range 7 {
		factorial *= max(1, n)
		var bounds []int
		for i := n - 1; i > 0; i-- {
			bounds = append(bounds, i+1)
		}
		l, orders := upTo(n), map[string]bool{}
		tuples(bounds, func(numbers []uint64) {
			got, e := made(t, numbers...).Shuffle(l)
			if e != api.OK || !slices.Equal(got, shuffled(l, numbers)) {
				t.Errorf("Shuffle(%d) with %d = %d, error %d", l, numbers, got, e)
			}
			key := ""
			for _, x := range got {
				key += string(rune('0' + x))
			}
			orders[key] = true
			if slices.Sort(got); !slices.Equal(got, l) {
				t.Errorf("Shuffle(%d) with %d has the elements %d", l, numbers, got)
			}
		})
		if len(orders) != factorial {
			t.Errorf("%d elements have %d orders, want %d", n, len(orders), factorial)
		}
	}
}

// P2.3: what was used and what is left, after each kind of call.
func TestUsedLeftRest(t *testing.T) {
	d := made(t, 7, 12, 5, 100, 3, 8, 9)
	holds(t, d, 0, 7, 12, 5, 100, 3, 8, 9)
	d.Next(10)
	holds(t, d, 1, 12, 5, 100, 3, 8, 9)
	d.Shuffle([]int{1, 2, 3})
	holds(t, d, 3, 100, 3, 8, 9)
	d.Pick(2, 9)
	holds(t, d, 5, 8, 9)
	d.Pick(3, 9)
	d.Shuffle(upTo(4))
	d.Next(0)
	holds(t, d, 5, 8, 9)
	d.Pick(2, 2)
	holds(t, d, 7)
	d.Next(1)
	holds(t, d, 7)
}

// P2.3: a copy goes on independently of what it was made of, in both directions.
func TestCopy(t *testing.T) {
	d := made(t, 7, 12, 5, 100, 3)
	d.Next(10)
	c := d.Copy()
	holds(t, c, 1, 12, 5, 100, 3)
	if n, e := c.Next(10); n != 2 || e != api.OK {
		t.Errorf("the copy has %d, error %d", n, e)
	}
	holds(t, d, 1, 12, 5, 100, 3)
	if x, e := d.Shuffle([]int{10, 20, 30, 40}); !slices.Equal(x, []int{20, 40, 30, 10}) || e != api.OK {
		t.Errorf("the draws have %d, error %d", x, e)
	}
	holds(t, c, 2, 5, 100, 3)
	holds(t, d, 4, 3)
	for range 3 {
		c.Next(1)
	}
	holds(t, c.Copy(), 5)
	holds(t, d, 4, 3)
}

// P2.4: draws of Rest go on in the same way, and so does a copy, from every point on.
func TestNewOfRestGoesOn(t *testing.T) {
	numbers := []uint64{top, 17, 4, 99, 1 << 40, 3, 12, 5, 8, 1<<63 + 3, 6, 2}
	for from := range len(numbers) + 1 {
		d := made(t, numbers...)
		for range from {
			d.Next(1)
		}
		for _, other := range []*draws.Draws{made(t, d.Rest()...), d.Copy()} {
			mine := d.Copy()
			for i := range 9 {
				bound := 3 + i
				a, e := mine.Next(bound)
				b, f := other.Next(bound)
				if a != b || e != f {
					t.Errorf("from %d: Next(%d) is %d, error %d, but %d, error %d", from, bound, a, e, b, f)
				}
				x, e := mine.Shuffle(upTo(i))
				y, f := other.Shuffle(upTo(i))
				if !slices.Equal(x, y) || e != f {
					t.Errorf("from %d: Shuffle of %d is %d, error %d, but %d, error %d", from, i, x, e, y, f)
				}
				x, e = mine.Pick(i%3, bound)
				y, f = other.Pick(i%3, bound)
				if !slices.Equal(x, y) || e != f || !slices.Equal(mine.Rest(), other.Rest()) {
					t.Errorf("from %d: Pick(%d, %d) is %d, error %d, but %d, error %d", from, i%3, bound, x, e, y, f)
				}
			}
		}
	}
}

// P2.1 to P2.3: nothing is shared with arguments, results or copies, and arguments are unchanged.
func TestNothingIsShared(t *testing.T) {
	own := make([]uint64, 4, 9)
	copy(own, []uint64{7, 12, 5, 100})
	d := made(t, own...)
	own[0], own[3] = 1, 1
	holds(t, d, 0, 7, 12, 5, 100)

	rest := d.Rest()
	rest[0], rest[1] = 2, 2
	holds(t, d, 0, 7, 12, 5, 100)

	c := d.Copy()
	other := append(c.Rest(), 44)
	other[0] = 3
	holds(t, c, 0, 7, 12, 5, 100)
	holds(t, d, 0, 7, 12, 5, 100)

	for _, l := range [][]int{{9}, {1, 2, 3}} {
		before := slices.Clone(l)
		x, e := d.Shuffle(l)
		if e != api.OK {
			t.Fatal(e)
		}
		x[0] = -1
		if !slices.Equal(l, before) {
			t.Errorf("the result shares memory with its list: %d was %d", l, before)
		}
	}
	holds(t, d, 2, 5, 100)

	x, _ := d.Copy().Pick(2, 4)
	x[0], x[1] = 50, 51
	if y, _ := d.Pick(2, 4); !slices.Equal(y, []int{1, 2}) {
		t.Errorf("Pick(2, 4) = %d", y)
	}
}

// P2.1 to P2.3: nil and zero draws, with arguments that have errors of their own, too.
func TestZero(t *testing.T) {
	for i, d := range []*draws.Draws{nil, {}} {
		for _, bound := range []int{-1, 0, 1, draws.MaxBound, draws.MaxBound + 1} {
			if n, e := d.Next(bound); n != 0 || e != api.ErrNil {
				t.Errorf("%d: Next(%d) = %d, error %d", i, bound, n, e)
			}
		}
		for _, n := range []int{0, 1, 2, draws.MaxDraws, draws.MaxDraws + 1} {
			if x, e := d.Shuffle(make([]int, n)); len(x) != 0 || e != api.ErrNil {
				t.Errorf("%d: Shuffle of %d elements = %d, error %d", i, n, x, e)
			}
		}
		for _, n := range []int{-1, 0, 1, draws.MaxDraws, draws.MaxDraws + 1} {
			if x, e := d.Pick(n, n); len(x) != 0 || e != api.ErrNil {
				t.Errorf("%d: Pick(%d, %d) = %d, error %d", i, n, n, x, e)
			}
			if x, e := d.Pick(0, n); len(x) != 0 || e != api.ErrNil {
				t.Errorf("%d: Pick(0, %d) = %d, error %d", i, n, x, e)
			}
		}
		holds(t, d, 0)
		if d.Copy() != nil {
			t.Errorf("%d: Copy is not nil", i)
		}
	}
}

// P1: no call panics, whatever its arguments and however many numbers are left.
func TestNothingPanics(t *testing.T) {
	edges := []int{least, least + 1, -1 << 32, -2, -1, 0, 1, 2, 3, draws.MaxDraws - 1, draws.MaxDraws, draws.MaxDraws + 1, draws.MaxBound, draws.MaxBound + 1, greatest - 1, greatest}
	for _, d := range []*draws.Draws{nil, {}, made(t), made(t, top), made(t, 0, top, 1<<63)} {
		for _, a := range edges {
			d.Copy().Next(a)
			for _, b := range edges {
				c := d.Copy()
				x, e := c.Pick(a, b)
				if e != api.OK && (len(x) != 0 || c.Used() != 0) || e == api.OK && (len(x) != a || c.Used() != a) {
					t.Errorf("Pick(%d, %d) = %d, error %d, used %d", a, b, x, e, c.Used())
				}
			}
		}
	}
}
