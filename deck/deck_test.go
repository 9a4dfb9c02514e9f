package deck_test

import (
	"maps"
	"math"
	"slices"
	"strconv"
	"testing"

	"zeitnot/api"
	"zeitnot/deck"
	"zeitnot/pool"
)

// named returns a valid card of a kind.
func named(name string, k api.CardKind) api.Card {
	c := api.Card{Name: name, Kind: k, Rarity: 1}
	switch k {
	case api.KindCreature:
		c.Toughness = 1
	case api.KindSpell, api.KindTrick:
		c.Effects = []api.Effect{{Code: api.EffectDraw, N: 1}}
	}
	return c
}

// made returns a pool of some cards.
func made(t *testing.T, l ...api.Card) *pool.Pool {
	t.Helper()
	p, e := pool.New(l)
	if p == nil || e != api.OK {
		t.Fatalf("the pool: error %d", e)
	}
	return p
}

// three returns the pool of the chapter's examples.
func three(t *testing.T) *pool.Pool {
	t.Helper()
	return made(t, named("Well", api.KindSource), named("Jolt", api.KindTrick), named("Fire", api.KindSource))
}

// six returns a pool with all kinds of cards, and with names that could be mistaken.
func six(t *testing.T) *pool.Pool {
	t.Helper()
	return made(t, named("Well", api.KindSource), named("Jolt", api.KindTrick), named("4 Fire", api.KindSource), named("Fire", api.KindCreature), named("20", api.KindSpell), named("a, b  c", api.KindSource))
}

// many returns a pool of as many cards as there may be, of which each fifth is a source.
func many(t *testing.T) *pool.Pool {
	t.Helper()
	l := []api.Card{}
	for i := range pool.MaxCards {
		k := []api.CardKind{api.KindSource, api.KindCreature, api.KindTrick, api.KindSpell, api.KindCreature}[i%5]
		l = append(l, named("No. "+strconv.Itoa(i), k))
	}
	return made(t, l...)
}

// list returns a decklist of pairs of an index and a count.
func list(l ...int) []api.Copies {
	out := []api.Copies{}
	for i := 0; i < len(l); i += 2 {
		out = append(out, api.Copies{Card: l[i], Count: l[i+1]})
	}
	return out
}

// laid returns the cards of a decklist, found by going through the cards of the pool.
func laid(p *pool.Pool, l []api.Copies) []int {
	out := []int{}
	for card := range p.Len() {
		for _, c := range l {
			if c.Card == card {
				out = append(out, slices.Repeat([]int{card}, c.Count)...)
			}
		}
	}
	return out
}

// judged returns the error of a decklist and the index of the line that is wrong, found by all that each line may lack.
func judged(p *pool.Pool, l []api.Copies) (int, api.Errno) {
	for i, c := range l {
		had := slices.ContainsFunc(l[:i], func(x api.Copies) bool { return x.Card >= c.Card })
		switch {
		case c.Card < 0 || c.Card > p.Len()-1:
			return i, api.ErrRange
		case c.Count <= 0 || c.Count >= 61 || had:
			return i, api.ErrArg
		case c.Count >= 5 && !slices.Contains(p.Select(api.KindSource, 0), c.Card):
			return i, api.ErrFull
		}
	}
	switch n := len(laid(p, l)); {
	case n <= 19:
		return -1, api.ErrShort
	case n >= 61:
		return -1, api.ErrLong
	}
	return -1, api.OK
}

// holds checks all that can be asked of a decklist whose error is known, and whether it is valid.
func holds(t *testing.T, p *pool.Pool, l []api.Copies, line int, err api.Errno) {
	t.Helper()
	kept := slices.Clone(l)
	if n, e := deck.Check(p, l); n != line || e != err {
		t.Fatalf("Check(%d): %d, error %d; want %d, %d", l, n, e, line, err)
	}
	want := []int{}
	if err == api.OK {
		want = laid(p, l)
	}
	if cards, e := deck.Cards(p, l); !slices.Equal(cards, want) || e != err {
		t.Fatalf("Cards(%d): %d, error %d; want %d, %d", l, cards, e, want, err)
	}
	for k := range api.CardKind(7) {
		of := slices.DeleteFunc(slices.Clone(want), func(i int) bool { return k != 1 && !slices.Contains(p.Select(k-1, 0), i) })
		if n, e := deck.Count(p, l, k-1); n != len(of) || e != err {
			t.Fatalf("Count(%d, %d): %d, error %d; want %d, %d", l, k-1, n, e, len(of), err)
		}
	}
	if s, e := deck.Text(p, l); (s == "") != (err != api.OK) || e != err {
		t.Fatalf("Text(%d): %q, error %d; want %d", l, s, e, err)
	}
	if err == api.OK {
		inverts(t, p, l, want)
	}
	if !slices.Equal(l, kept) {
		t.Fatalf("the decklist %d was changed to %d", kept, l)
	}
}

// inverts checks what follows for a valid decklist with some cards.
func inverts(t *testing.T, p *pool.Pool, l []api.Copies, cards []int) {
	t.Helper()
	if got, e := deck.Of(cards); !slices.Equal(got, l) || e != api.OK {
		t.Fatalf("Of(%d): %d, error %d; want %d", cards, got, e, l)
	}
	s, _ := deck.Text(p, l)
	if got, line, e := deck.Parse(p, s); !slices.Equal(got, l) || line != 0 || e != api.OK {
		t.Fatalf("Parse(%q): %d, line %d, error %d; want %d", s, got, line, e, l)
	}
	if len(l) > len(cards) {
		t.Fatalf("%d has more lines than cards", l)
	}
}

// P9.1, P9.2: the calls of the chapter's examples.
func TestExamples(t *testing.T) {
	if deck.MinCards != 20 || deck.MaxCards != 60 || deck.MaxCopies != 4 {
		t.Error(deck.MinCards, deck.MaxCards, deck.MaxCopies)
	}
	p := three(t)
	holds(t, p, list(0, 18, 1, 4), -1, api.OK)
	holds(t, p, list(0, 18, 1, 5), 1, api.ErrFull)
	holds(t, p, list(0, 18, 3, 1), 1, api.ErrRange)
	holds(t, p, list(1, 4, 0, 18), 1, api.ErrArg)
	holds(t, p, list(0, 0), 0, api.ErrArg)
	holds(t, p, list(0, 19), -1, api.ErrShort)
	holds(t, p, list(0, 60, 2, 1), -1, api.ErrLong)
	holds(t, p, list(0, 61), 0, api.ErrArg)
	if l, e := deck.Of([]int{2, 0, 0}); !slices.Equal(l, list(0, 2, 2, 1)) || e != api.OK {
		t.Errorf("Of(2 0 0): %d, error %d", l, e)
	}
	if l, e := deck.Of([]int{-1}); len(l) != 0 || e != api.ErrArg {
		t.Errorf("Of(-1): %d, error %d", l, e)
	}
	for k, want := range map[api.CardKind]int{api.KindSource: 18, 0: 22} {
		if n, e := deck.Count(p, list(0, 18, 1, 4), k); n != want || e != api.OK {
			t.Errorf("Count of the kind %d: %d, error %d; want %d", k, n, e, want)
		}
	}
}

// P9.1: of all that is wrong with a line, the first error of the list is returned.
func TestCheckOrder(t *testing.T) {
	p := six(t)
	for _, n := range []int{math.MinInt, -1, 0, 1, 4, 5, 60, 61, math.MaxInt} {
		for _, card := range []int{math.MinInt, -2, -1, 6, 7, 400, math.MaxInt} {
			holds(t, p, list(card, n), 0, api.ErrRange)
			holds(t, p, list(0, 20, card, n), 1, api.ErrRange)
			holds(t, p, list(0, 20, 5, 1, card, n), 2, api.ErrRange)
		}
		// A line with a card that was there, or that is behind another one, is wrong whatever its count is.
		for _, card := range []int{0, 1, 2, 3} {
			holds(t, p, list(3, 4, card, n), 1, api.ErrArg)
			holds(t, p, list(0, 20, 1, 1, 3, 4, card, n), 3, api.ErrArg)
		}
	}
	for _, card := range []int{1, 3, 4} {
		for n := 5; n <= 60; n++ {
			holds(t, p, list(card, n), 0, api.ErrFull)
		}
		for _, n := range []int{math.MinInt, -60, -5, -1, 0, 61, 62, 65, 256 + 4, 1<<32 + 4, math.MaxInt} {
			holds(t, p, list(card, n), 0, api.ErrArg)
		}
	}
}

// P9.1: the first line that is wrong is found, whatever the lines behind it and all counts together are.
func TestCheckFirst(t *testing.T) {
	p := many(t)
	bad := []struct {
		count int
		err   api.Errno
	}{{0, api.ErrArg}, {61, api.ErrArg}, {5, api.ErrFull}, {60, api.ErrFull}}
	for at := range 60 {
		for _, c := range bad {
			l := []api.Copies{}
			for i := range 60 {
				l = append(l, api.Copies{Card: i*5 + 1, Count: 4})
			}
			l[at].Count = c.count
			holds(t, p, l, at, c.err)
			// All lines behind it are wrong, too, in other ways.
			for i := at + 1; i < 60; i++ {
				l[i] = []api.Copies{{Card: 400, Count: 1}, {Card: 0, Count: 1}, {Card: i*5 + 1, Count: -1}, {Card: i*5 + 1, Count: 5}}[i%4]
			}
			holds(t, p, l, at, c.err)
		}
	}
}

// P9.1, P9.2, P9.4: all decklists of up to two lines, and many of three, also those that are wrong.
func TestLists(t *testing.T) {
	p := six(t)
	all := []api.Copies{}
	for card := -1; card <= 6; card++ {
		for _, n := range []int{-1, 0, 1, 4, 5, 15, 16, 19, 20, 21, 40, 41, 55, 56, 57, 59, 60, 61} {
			all = append(all, api.Copies{Card: card, Count: n})
		}
	}
	tried := map[api.Errno]int{}
	try := func(l ...api.Copies) {
		line, e := judged(p, l)
		tried[e]++
		holds(t, p, l, line, e)
	}
	try()
	for i, one := range all {
		try(one)
		for j, two := range all {
			try(one, two)
			if (i+j)%9 == 0 {
				try(one, two, all[(i*31+j*17)%len(all)])
				try(one, two, api.Copies{Card: two.Card + 1, Count: (i*j)%10 + 1})
			}
		}
	}
	for _, e := range []api.Errno{api.OK, api.ErrRange, api.ErrArg, api.ErrFull, api.ErrShort, api.ErrLong} {
		if tried[e] < 100 {
			t.Errorf("the error %d was tried %d times", e, tried[e])
		}
	}
}

// P9.1: as many cards as there may be, and one more or less, in one line and in many.
func TestSizes(t *testing.T) {
	p := many(t)
	for size := range 130 {
		err := api.OK
		switch {
		case size < 20:
			err = api.ErrShort
		case size > 60:
			err = api.ErrLong
		}
		for _, most := range []int{1, 2, 3, 4} {
			l := []api.Copies{}
			for left := size; left > 0; left -= most {
				l = append(l, api.Copies{Card: 399 - len(l)*3, Count: min(left, most)})
			}
			slices.Reverse(l)
			holds(t, p, l, -1, err)
		}
		l := []api.Copies{}
		for left := size; left > 0; left -= 60 {
			l = append(l, api.Copies{Card: len(l) * 195, Count: min(left, 60)})
		}
		holds(t, p, l, -1, err)
	}
	all := []api.Copies{}
	for card := range 400 {
		all = append(all, api.Copies{Card: card, Count: 1})
	}
	holds(t, p, all, -1, api.ErrLong)
	holds(t, p, append(all, api.Copies{Card: 400, Count: 1}), 400, api.ErrRange)
}

// P9.2, P9.4: any cards, in any order, have a line for each different index, in increasing order.
func TestOf(t *testing.T) {
	for size := range 61 {
		for step := range 12 {
			cards, counts := []int{}, map[int]int{}
			for i := range size {
				card := []int{0, i, 60 - i, i * i % 7, i % 5, i*step + 1, math.MaxInt - i*step%4, 399}[step%8] + step/8
				card = max(card, 0)
				cards, counts[card] = append(cards, card), counts[card]+1
			}
			want := []api.Copies{}
			for _, card := range slices.Sorted(maps.Keys(counts)) {
				want = append(want, api.Copies{Card: card, Count: counts[card]})
			}
			kept := slices.Clone(cards)
			l, e := deck.Of(cards)
			if !slices.Equal(l, want) || e != api.OK || !slices.Equal(cards, kept) {
				t.Fatalf("Of(%d): %d, error %d; want %d", kept, l, e, want)
			}
			slices.Reverse(cards)
			if l, e := deck.Of(cards); !slices.Equal(l, want) || e != api.OK {
				t.Fatalf("Of(%d): %d, error %d; want %d", cards, l, e, want)
			}
		}
	}
}

// P9.2: too many cards, and indices below 0 wherever they are; too many of them come first.
func TestOfErrors(t *testing.T) {
	for _, size := range []int{61, 62, 100, 317, 65536 + 20} {
		for _, card := range []int{0, -1, 7, math.MinInt} {
			if l, e := deck.Of(slices.Repeat([]int{card}, size)); len(l) != 0 || e != api.ErrLong {
				t.Errorf("Of %d cards: %d, error %d", size, l, e)
			}
		}
	}
	for _, size := range []int{1, 2, 3, 20, 60} {
		for at := range size {
			for _, card := range []int{-1, -2, -400, math.MinInt} {
				cards := make([]int, size)
				for i := range cards {
					cards[i] = i % 3
				}
				cards[at] = card
				if l, e := deck.Of(cards); len(l) != 0 || e != api.ErrArg {
					t.Errorf("Of(%d): %d, error %d", cards, l, e)
				}
			}
		}
	}
	if l, e := deck.Of(nil); len(l) != 0 || e != api.OK {
		t.Errorf("Of no cards: %d, error %d", l, e)
	}
}

// P9.2: what is no kind has no cards in any decklist.
func TestCountNot(t *testing.T) {
	p := six(t)
	l := list(0, 20, 1, 1, 2, 2, 3, 3, 4, 4, 5, 7)
	for k, want := range []int{37, 29, 3, 4, 1, 0, 0} {
		if n, e := deck.Count(p, l, api.CardKind(k)); n != want || e != api.OK {
			t.Errorf("Count of the kind %d: %d, error %d; want %d", k, n, e, want)
		}
	}
	for _, k := range []api.CardKind{-1, 5, 256, 257, 1 << 32, 1<<32 + 1, math.MinInt, math.MaxInt} {
		if n, e := deck.Count(p, l, k); n != 0 || e != api.OK {
			t.Errorf("Count of the kind %d: %d, error %d", k, n, e)
		}
	}
}

// P9.1 to P9.3: there is no decklist against a nil or zero pool, whatever the list is; a pool without cards is another thing.
func TestNil(t *testing.T) {
	for _, p := range []*pool.Pool{nil, {}, new(pool.Pool)} {
		for _, l := range [][]api.Copies{nil, {}, list(0, 20), list(0, 18, 1, 4), list(-1, 0), list(0, 61), list(1, 9)} {
			holds(t, p, l, -1, api.ErrNil)
		}
		for _, s := range []string{"", "x", "20 Well\n", "20 Well\n20 Well\n", "\n"} {
			if l, line, e := deck.Parse(p, s); len(l) != 0 || line != 0 || e != api.ErrNil {
				t.Errorf("Parse(%q): %d, line %d, error %d", s, l, line, e)
			}
		}
	}
	empty := made(t)
	holds(t, empty, nil, -1, api.ErrShort)
	holds(t, empty, list(0, 20), 0, api.ErrRange)
}

// P9.2: results share no memory with each other.
func TestSharing(t *testing.T) {
	p, l := six(t), list(0, 20, 1, 2, 5, 3)
	first, _ := deck.Cards(p, l)
	second, _ := deck.Cards(p, l)
	clear(first)
	if !slices.Equal(second, laid(p, l)) {
		t.Errorf("the cards share memory: %d", second)
	}
	one, _ := deck.Of(second)
	two, _ := deck.Of(second)
	clear(one)
	if !slices.Equal(two, l) {
		t.Errorf("the decklists share memory: %d", two)
	}
	holds(t, p, l, -1, api.OK)
}
