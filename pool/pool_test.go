package pool_test

import (
	"math"
	"slices"
	"strconv"
	"strings"
	"testing"

	"zeitnot/api"
	"zeitnot/card"
	"zeitnot/pool"
)

// The cards of layer 7's examples.
func well() api.Card {
	return api.Card{Name: "Well", Kind: api.KindSource, Makes: api.Tide, Rarity: 1}
}

func wisp() api.Card {
	return api.Card{
		Name: "Wisp", Kind: api.KindCreature, Cost: api.Cost{Of: api.Mana{0, 1, 0, 0}, Any: 1}, Power: 1, Toughness: 2, Keywords: api.Flying, Rarity: 2,
		Triggers: []api.Trigger{{When: api.WhenDies, Effects: []api.Effect{{Code: api.EffectDraw, N: 1}}}},
	}
}

func jolt() api.Card {
	return api.Card{Name: "Jolt", Kind: api.KindTrick, Cost: api.Cost{Of: api.Mana{1, 0, 0, 0}}, Effects: []api.Effect{{Code: api.EffectDamage, Target: api.TargetEither, N: 3}}, Rarity: 1}
}

// named returns a source with a name.
func named(name string) api.Card {
	return api.Card{Name: name, Kind: api.KindSource, Rarity: 3}
}

// many returns cards of all kinds and rarities, which change along the list, with different names.
func many(size int) []api.Card {
	l := []api.Card{}
	for i := range size {
		c := []api.Card{well(), jolt(), wisp(), jolt(), wisp()}[i*i%7%5]
		if i%3 == 0 && c.Kind == api.KindTrick {
			c.Kind = api.KindSpell
		}
		c.Name = "No. " + strconv.Itoa(i)
		c.Rarity = i*7%11%4 + 1
		l = append(l, c)
	}
	return l
}

// lists returns lists of cards that pools may have, of all sizes around bytes and limits.
func lists() [][]api.Card {
	all := [][]api.Card{{well(), jolt()}, {jolt(), well()}, {wisp(), well(), jolt()}, {named("well"), well(), named("WELL"), named("Wel"), named("Well!"), named("Well1"), named("W  ell")}}
	for _, size := range []int{0, 1, 2, 3, 4, 5, 10, 40, 127, 128, 255, 256, 257, 399, 400} {
		all = append(all, many(size))
	}
	return all
}

// made returns a pool of some cards.
func made(t *testing.T, l []api.Card) *pool.Pool {
	t.Helper()
	p, e := pool.New(l)
	if p == nil || e != api.OK {
		t.Fatalf("New of %d cards: %v, error %d", len(l), p, e)
	}
	return p
}

// clone returns a list of cards that shares no memory with another one.
func clone(l []api.Card) []api.Card {
	out := make([]api.Card, len(l))
	for i, c := range l {
		out[i] = card.Copy(c)
	}
	return out
}

// spoil changes all cards of a list, and all that their lists have.
func spoil(l []api.Card) {
	for i := range l {
		clear(l[i].Effects)
		for j := range l[i].Triggers {
			clear(l[i].Triggers[j].Effects)
			l[i].Triggers[j].When = 9
		}
		l[i] = api.Card{Name: "spoilt"}
	}
}

// selected returns the indices of the cards of a kind and of a rarity, found one after the other.
func selected(l []api.Card, k api.CardKind, rarity int) []int {
	out := []int{}
	for i, c := range l {
		if k != 0 && c.Kind != k {
			continue
		}
		if rarity != 0 && c.Rarity != rarity {
			continue
		}
		out = append(out, i)
	}
	return out
}

// holds checks everything that can be asked of a pool that has just some cards.
func holds(t *testing.T, p *pool.Pool, l []api.Card) {
	t.Helper()
	if p.Len() != len(l) || !slices.EqualFunc(p.Cards(), l, card.Equal) {
		t.Fatalf("Len %d, Cards %v; want %d, %v", p.Len(), p.Cards(), len(l), l)
	}
	for i, c := range l {
		if got, e := p.Card(i); !card.Equal(got, c) || e != api.OK {
			t.Errorf("Card(%d): %v, error %d; want %v", i, got, e, c)
		}
		if got, e := p.Find(c.Name); got != i || e != api.OK {
			t.Errorf("Find(%q): %d, error %d; want %d", c.Name, got, e, i)
		}
	}
	for _, i := range []int{-1, -2, -len(l), -len(l) - 1, len(l), len(l) + 1, 400, 401, 65536, math.MinInt, math.MaxInt} {
		if i >= 0 && i < len(l) {
			continue
		}
		if got, e := p.Card(i); !card.Equal(got, api.Card{}) || e != api.ErrRange {
			t.Errorf("Card(%d) of %d: %v, error %d; want ErrRange", i, len(l), got, e)
		}
	}
	for k := range api.CardKind(7) {
		for rarity := -1; rarity <= 6; rarity++ {
			if got, want := p.Select(k-1, rarity), selected(l, k-1, rarity); !slices.Equal(got, want) {
				t.Errorf("Select(%d, %d): %d; want %d", k-1, rarity, got, want)
			}
		}
	}
}

// P8.1, P8.2: the calls of the chapter's examples.
func TestExamples(t *testing.T) {
	p := made(t, []api.Card{well(), jolt()})
	if p.Len() != 2 {
		t.Errorf("Len %d", p.Len())
	}
	if i, e := p.Find("Jolt"); i != 1 || e != api.OK {
		t.Errorf("Find(Jolt): %d, error %d", i, e)
	}
	if i, e := p.Find("Wisp"); i != 0 || e != api.ErrNone {
		t.Errorf("Find(Wisp): %d, error %d", i, e)
	}
	if l := p.Select(api.KindTrick, 0); !slices.Equal(l, []int{1}) {
		t.Errorf("tricks: %d", l)
	}
	if l := p.Select(0, 1); !slices.Equal(l, []int{0, 1}) {
		t.Errorf("of the rarity 1: %d", l)
	}
	if l := p.Select(api.KindTrick, 2); len(l) != 0 {
		t.Errorf("tricks of the rarity 2: %d", l)
	}
	if c, e := p.Card(2); !card.Equal(c, api.Card{}) || e != api.ErrRange {
		t.Errorf("Card(2): %v, error %d", c, e)
	}
	refused(t, []api.Card{well(), well()}, api.ErrBusy)
	refused(t, []api.Card{named("")}, api.ErrArg)
}

// refused checks that New returns an error for some cards, and nothing else.
func refused(t *testing.T, l []api.Card, err api.Errno) {
	t.Helper()
	kept := clone(l)
	if p, e := pool.New(l); p != nil || e != err {
		t.Fatalf("New of %d cards: %v, error %d; want %d", len(l), p, e, err)
	}
	if !slices.EqualFunc(l, kept, card.Equal) {
		t.Fatal("New has changed its argument")
	}
}

// P8.1, P8.2, P8.4: a pool has the cards that it was made of, in order, and they are found by index, name, kind and rarity.
func TestNew(t *testing.T) {
	for _, l := range lists() {
		given := clone(l)
		p := made(t, given)
		if !slices.EqualFunc(given, l, card.Equal) {
			t.Error("New has changed its argument")
		}
		holds(t, p, l)
	}
	holds(t, made(t, []api.Card{}), nil)
}

// P8.1: a pool has at most MaxCards cards, whatever these are.
func TestNewLong(t *testing.T) {
	if pool.MaxCards != 400 {
		t.Errorf("MaxCards %d", pool.MaxCards)
	}
	for _, size := range []int{401, 402, 512, 656, 65536, 65537} {
		refused(t, many(size), api.ErrLong)
		refused(t, make([]api.Card, size), api.ErrLong)
		refused(t, slices.Repeat([]api.Card{well()}, size), api.ErrLong)
	}
}

// P8.1: cards that are not valid are refused wherever they are, and before equal names.
func TestNewArg(t *testing.T) {
	bad := []api.Card{{}, named(""), named(" x"), named("a\nb"), named(strings.Repeat("m", 33)), {Name: "Well", Kind: api.KindSource}, {Name: "Well", Kind: 5, Rarity: 1}, {Name: "Jolt", Kind: api.KindTrick, Rarity: 1}, {Name: "Ox", Kind: api.KindCreature, Rarity: 1}}
	for _, size := range []int{1, 2, 5, 400} {
		for _, c := range bad {
			for _, at := range []int{0, size / 2, size - 1} {
				l := many(size)
				l[at] = c
				refused(t, l, api.ErrArg)
				l = slices.Repeat([]api.Card{well()}, size)
				l[at] = c
				refused(t, l, api.ErrArg)
			}
		}
	}
	refused(t, slices.Repeat([]api.Card{{}}, 2), api.ErrArg)
	refused(t, make([]api.Card, 400), api.ErrArg)
}

// P8.1: two cards of the same name are refused wherever they are, and also if all else is different.
func TestNewBusy(t *testing.T) {
	for _, size := range []int{2, 3, 7} {
		for one := range size {
			for two := one + 1; two < size; two++ {
				l := many(size)
				l[two] = card.Copy(l[one])
				refused(t, l, api.ErrBusy)
				for _, c := range []api.Card{well(), wisp(), jolt()} {
					c.Name, c.Rarity = l[one].Name, 4
					l[two] = c
					refused(t, l, api.ErrBusy)
				}
			}
		}
	}
	l := many(400)
	l[399].Name = l[0].Name
	refused(t, l, api.ErrBusy)
	refused(t, slices.Repeat([]api.Card{jolt()}, 400), api.ErrBusy)
}

// P8.2: what no card is called is not found, however much it is like a name.
func TestFindNot(t *testing.T) {
	p := made(t, []api.Card{well(), named("a b"), named("~"), named(strings.Repeat("m", 32)), jolt()})
	for _, name := range []string{"", " ", "well", "WELL", "Wel", "ell", "Well ", " Well", "Well\x00", "Wells", "Well\n", "ab", "a  b", "a\tb", "a", "b", "~~", "\x7e\x00", strings.Repeat("m", 31), strings.Repeat("m", 33), strings.Repeat("m", 1<<16), "\xff", "\u01ef", "W\u0435ll", "Wisp", "0", "1"} {
		if i, e := p.Find(name); i != 0 || e != api.ErrNone {
			t.Errorf("Find(%q): %d, error %d; want ErrNone", name, i, e)
		}
		if i, e := made(t, nil).Find(name); i != 0 || e != api.ErrNone {
			t.Errorf("Find(%q) of no cards: %d, error %d; want ErrNone", name, i, e)
		}
	}
	if i, e := p.Find("~"); i != 2 || e != api.OK {
		t.Errorf("Find(~): %d, error %d", i, e)
	}
}

// P8.2: numbers that are no kind or no rarity select nothing; only 0 selects all of them.
func TestSelectNot(t *testing.T) {
	p := made(t, many(40))
	for _, n := range []int{-1, -2, -4, 5, 6, 8, 256, 257, 1 << 32, 1<<32 + 1, math.MinInt, math.MaxInt} {
		for other := range 5 {
			if l := p.Select(api.CardKind(n), other); len(l) != 0 {
				t.Errorf("Select(%d, %d): %d", n, other, l)
			}
			if l := p.Select(api.CardKind(other), n); len(l) != 0 {
				t.Errorf("Select(%d, %d): %d", other, n, l)
			}
		}
	}
	if l := p.Select(0, 0); len(l) != 40 || l[0] != 0 || l[39] != 39 {
		t.Errorf("Select(0, 0): %d", l)
	}
	for other := range 5 {
		if l := made(t, nil).Select(api.CardKind(other), 0); len(l) != 0 {
			t.Errorf("Select(%d, 0) of no cards: %d", other, l)
		}
	}
}

// P8.4: each card is selected by its kind and its rarity alone, and by no others.
func TestSelected(t *testing.T) {
	p := made(t, many(400))
	for i, c := range p.Cards() {
		for k := range api.CardKind(5) {
			for rarity := range 5 {
				want := (k == 0 || k == c.Kind) && (rarity == 0 || rarity == c.Rarity)
				if slices.Contains(p.Select(k, rarity), i) != want {
					t.Fatalf("Select(%d, %d) of card %d, %v: not %v", k, rarity, i, c, want)
				}
			}
		}
	}
}

// P8.1, P8.2: neither the cards that were given nor results share memory with a pool or with each other.
func TestSharing(t *testing.T) {
	l := []api.Card{wisp(), jolt(), well()}
	given := clone(l)
	p := made(t, given)
	spoil(given)
	holds(t, p, l)
	first, second := p.Cards(), p.Cards()
	spoil(first)
	if !slices.EqualFunc(second, l, card.Equal) {
		t.Error("the cards share memory")
	}
	_ = append(second[:0], well(), well(), well())
	for i := range l {
		c, _ := p.Card(i)
		d, _ := p.Card(i)
		spoil([]api.Card{c})
		if !card.Equal(d, l[i]) {
			t.Errorf("Card(%d) shares memory", i)
		}
	}
	once, again := p.Select(0, 0), p.Select(0, 0)
	clear(once)
	if !slices.Equal(again, []int{0, 1, 2}) {
		t.Errorf("Select(0, 0): %d", again)
	}
	holds(t, p, l)
}

// P8.1, P8.2: pools know nothing of each other.
func TestTwo(t *testing.T) {
	one, two := made(t, []api.Card{well(), jolt()}), made(t, []api.Card{jolt(), wisp(), well()})
	holds(t, one, []api.Card{well(), jolt()})
	holds(t, two, []api.Card{jolt(), wisp(), well()})
	refused(t, []api.Card{wisp(), wisp()}, api.ErrBusy)
	holds(t, one, []api.Card{well(), jolt()})
}

// P8.1, P8.2, P8.3: a nil or zero pool has nothing, which is more than all other errors; one of no cards is not zero.
func TestZero(t *testing.T) {
	for _, p := range []*pool.Pool{nil, {}, new(pool.Pool)} {
		for _, i := range []int{-1, 0, 1, 400, math.MinInt, math.MaxInt} {
			if c, e := p.Card(i); !card.Equal(c, api.Card{}) || e != api.ErrNil {
				t.Errorf("Card(%d): %v, error %d; want ErrNil", i, c, e)
			}
		}
		for _, name := range []string{"", "Well"} {
			if i, e := p.Find(name); i != 0 || e != api.ErrNil {
				t.Errorf("Find(%q): %d, error %d; want ErrNil", name, i, e)
			}
		}
		if b, e := p.Encode(); len(b) != 0 || e != api.ErrNil {
			t.Errorf("Encode: %v, error %d; want ErrNil", b, e)
		}
		if p.Len() != 0 || len(p.Cards()) != 0 || len(p.Select(0, 0)) != 0 || len(p.Select(-1, 9)) != 0 {
			t.Error("a zero pool has something")
		}
	}
	holds(t, made(t, nil), nil)
}
