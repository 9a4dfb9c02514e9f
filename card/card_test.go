package card_test

import (
	"math"
	"slices"
	"strings"
	"testing"

	"zeitnot/api"
	"zeitnot/card"
)

// The effects that the tests are made of; the first three need no target, the last ones are not valid.
var (
	draw    = api.Effect{Code: api.EffectDraw, N: 1}
	grow    = api.Effect{Code: api.EffectPump, N: 1, M: 2}
	mark    = api.Effect{Code: api.EffectCounters, N: 3}
	bolt    = api.Effect{Code: api.EffectDamage, Target: api.TargetEither, N: 3}
	growOwn = api.Effect{Code: api.EffectPump, Target: api.TargetOwn, N: 9}
	markAny = api.Effect{Code: api.EffectCounters, Target: api.TargetCreature, N: 1}
	deny    = api.Effect{Code: api.EffectCounter, Target: api.TargetSpell}
	still   = api.Effect{Code: api.EffectPump}
	lost    = api.Effect{Code: api.EffectDestroy}
)

// The cards of the chapter's examples.
func well() api.Card {
	return api.Card{Name: "Well", Kind: api.KindSource, Makes: api.Tide, Rarity: 1}
}

func wisp() api.Card {
	return api.Card{
		Name: "Wisp", Kind: api.KindCreature, Cost: api.Cost{Of: api.Mana{0, 1, 0, 0}, Any: 1}, Power: 1, Toughness: 2, Keywords: api.Flying, Rarity: 2,
		Triggers: []api.Trigger{{When: api.WhenDies, Effects: []api.Effect{draw}}},
	}
}

func jolt() api.Card {
	return api.Card{Name: "Jolt", Kind: api.KindTrick, Cost: api.Cost{Of: api.Mana{1, 0, 0, 0}}, Effects: []api.Effect{bolt}, Rarity: 1}
}

// hex is a spell.
func hex() api.Card {
	return api.Card{Name: "Hex of 7", Kind: api.KindSpell, Cost: api.Cost{Of: api.Mana{0, 0, 2, 1}, Any: 12}, Effects: []api.Effect{deny, draw, growOwn, markAny}, Rarity: 4}
}

// giant is a creature that has as much of everything as there may be.
func giant() api.Card {
	return api.Card{
		Name: strings.Repeat("Giant ~ ", 4)[:31] + "!", Kind: api.KindCreature, Cost: api.Cost{Of: api.Mana{20, 20, 20, 20}, Any: 20}, Power: 20, Toughness: 20, Keywords: 15, Rarity: 4,
		Effects:  []api.Effect{bolt, grow, deny, mark},
		Triggers: []api.Trigger{{When: api.WhenUpkeep, Effects: []api.Effect{grow, draw}}, {When: api.WhenAttacks, Effects: []api.Effect{mark, mark}}},
	}
}

// plain is a creature that has as little of everything as there may be.
func plain() api.Card {
	return api.Card{Name: "x", Kind: api.KindCreature, Toughness: 1, Rarity: 1}
}

// samples returns a card of each example and each kind.
func samples() []api.Card {
	return []api.Card{well(), wisp(), jolt(), hex(), giant(), plain()}
}

// with returns a card in which something was changed.
func with(c api.Card, change func(c *api.Card)) api.Card {
	c = card.Copy(c)
	change(&c)
	return c
}

// valid returns many valid cards: the samples, with each of their parts as small, as great and as usual as it may be.
func valid() []api.Card {
	out := samples()
	add := func(change func(c *api.Card), names ...string) {
		for _, c := range samples() {
			if slices.Contains(names, c.Name) {
				out = append(out, with(c, change))
			}
		}
	}
	creatures, casts, all := []string{"Wisp", "x", giant().Name}, []string{"Jolt", "Hex of 7"}, []string{"Well", "Wisp", "x", giant().Name, "Jolt", "Hex of 7"}
	for _, name := range []string{"!", "~", "a b", "Q", "a, b", "Well", "0", strings.Repeat("m", 31), strings.Repeat("m", 32), "a  \"\\/ b"} {
		add(func(c *api.Card) { c.Name = name }, all...)
	}
	for n := range 4 {
		add(func(c *api.Card) { c.Rarity = n + 1 }, all...)
		add(func(c *api.Card) { c.Makes = api.Colour(n) }, "Well")
		add(func(c *api.Card) { c.Cost.Of[n], c.Cost.Any = 20, 0 }, append(creatures, casts...)...)
		add(func(c *api.Card) { c.Effects = []api.Effect{bolt, deny, draw, growOwn}[:n+1] }, append(creatures, casts...)...)
	}
	for n := range 16 {
		add(func(c *api.Card) { c.Keywords = api.Keyword(n) }, creatures...)
	}
	for n := range 21 {
		add(func(c *api.Card) { c.Power, c.Toughness, c.Cost.Any = n, 20-n+n/20, n }, creatures...)
	}
	for _, first := range []api.When{api.WhenDies, api.WhenAttacks, api.WhenUpkeep} {
		add(func(c *api.Card) { c.Triggers = []api.Trigger{{When: first, Effects: []api.Effect{mark, draw}}} }, creatures...)
		add(func(c *api.Card) {
			c.Triggers = []api.Trigger{{When: first, Effects: []api.Effect{draw}}, {When: first%3 + 1, Effects: []api.Effect{grow, draw}}}
		}, creatures...)
	}
	return append(out, with(hex(), func(c *api.Card) { c.Kind = api.KindTrick }), with(jolt(), func(c *api.Card) { c.Kind = api.KindSpell }))
}

// invalid returns cards that are not valid, one for each way.
func invalid() []api.Card {
	out := []api.Card{{}}
	add := func(c api.Card, changes ...func(c *api.Card)) {
		for _, change := range changes {
			out = append(out, with(c, change))
		}
	}
	for _, c := range samples() {
		add(c,
			func(c *api.Card) { c.Name = "" }, func(c *api.Card) { c.Name = strings.Repeat("m", 33) }, func(c *api.Card) { c.Name = " m" }, func(c *api.Card) { c.Name = "m " }, func(c *api.Card) { c.Name = "a\nb" }, func(c *api.Card) { c.Name = "m\x7f" },
			func(c *api.Card) { c.Rarity = 0 }, func(c *api.Card) { c.Rarity = 5 }, func(c *api.Card) { c.Rarity = 257 }, func(c *api.Card) { c.Kind = 0 }, func(c *api.Card) { c.Kind = 5 }, func(c *api.Card) { c.Kind += 256 }, func(c *api.Card) { c.Makes = 4 }, func(c *api.Card) { c.Makes = -1 },
			func(c *api.Card) { c.Cost.Any = -1 }, func(c *api.Card) { c.Cost.Any = 21 }, func(c *api.Card) { c.Cost.Of[3] = 21 }, func(c *api.Card) { c.Power = 21 }, func(c *api.Card) { c.Toughness = -1 }, func(c *api.Card) { c.Keywords = 16 }, func(c *api.Card) { c.Keywords = -1 },
			func(c *api.Card) { c.Effects = []api.Effect{lost} }, func(c *api.Card) { c.Effects = []api.Effect{draw, draw, draw, draw, draw} }, func(c *api.Card) { c.Triggers = []api.Trigger{{When: 4, Effects: []api.Effect{draw}}} })
	}
	add(well(), func(c *api.Card) { c.Cost.Any = 1 }, func(c *api.Card) { c.Power = 1 }, func(c *api.Card) { c.Toughness = 1 }, func(c *api.Card) { c.Keywords = 1 }, func(c *api.Card) { c.Effects = []api.Effect{draw} }, func(c *api.Card) { c.Triggers = wisp().Triggers })
	add(jolt(), func(c *api.Card) { c.Makes = 1 }, func(c *api.Card) { c.Power = 1 }, func(c *api.Card) { c.Toughness = 1 }, func(c *api.Card) { c.Keywords = 1 }, func(c *api.Card) { c.Effects = nil }, func(c *api.Card) { c.Effects[0] = grow }, func(c *api.Card) { c.Triggers = wisp().Triggers })
	add(wisp(), func(c *api.Card) { c.Makes = 1 }, func(c *api.Card) { c.Toughness = 0 }, func(c *api.Card) { c.Triggers[0].Effects[0] = bolt }, func(c *api.Card) { c.Triggers[0].Effects = nil }, func(c *api.Card) { c.Triggers = append(c.Triggers, c.Triggers[0]) })
	return out
}

// numbers are those that a part of a card is tried with: all that are a byte, and some that look like these if they are cut.
func numbers() []int {
	out := []int{math.MinInt, math.MinInt + 1, -1 << 32, -256, -255, -16, -2, -1, 257, 258, 271, 512, 1 << 16, 1<<16 + 1, 1 << 32, 1<<32 + 1, math.MaxInt - 1, math.MaxInt}
	for n := range 256 {
		out = append(out, n)
	}
	return out
}

// validates checks what Valid says of a card, and that Encode and Line take just those that it says are valid.
func validates(t *testing.T, c api.Card, want bool) {
	t.Helper()
	kept := card.Copy(c)
	if got := card.Valid(c); got != want {
		t.Fatalf("Valid(%v) = %v", c, got)
	}
	b, e := card.Encode(c)
	line, f := card.Line(c)
	if want && (len(b) == 0 || e != api.OK || line == "" || f != api.OK) {
		t.Fatalf("%v: Encode = %v, error %d, Line = %q, error %d", c, b, e, line, f)
	}
	if !want && (len(b) != 0 || e != api.ErrArg || line != "" || f != api.ErrArg) {
		t.Fatalf("%v: Encode = %v, error %d, Line = %q, error %d; want ErrArg", c, b, e, line, f)
	}
	if !card.Equal(c, kept) {
		t.Fatalf("%v was changed to %v", kept, c)
	}
}

// P7.1: the limits, as the chapter declares them, and many cards that are valid, and that are not.
func TestValid(t *testing.T) {
	if card.MaxTriggers != 2 || card.MaxPower != 20 || card.MaxRarity != 4 || card.MaxSize != 200 {
		t.Errorf("the limits are %d, %d, %d, %d", card.MaxTriggers, card.MaxPower, card.MaxRarity, card.MaxSize)
	}
	for _, c := range valid() {
		validates(t, c, true)
	}
	for _, c := range invalid() {
		validates(t, c, false)
	}
}

// P7.1: each number of a card of each kind is allowed from a least to a greatest one, and 0 where the kind has no such number.
func TestValidNumbers(t *testing.T) {
	type limits struct{ least, most int }
	none, colour, cost, power, toughness, keywords, rarity := limits{0, 0}, limits{0, 3}, limits{0, 20}, limits{0, 20}, limits{1, 20}, limits{0, 15}, limits{1, 4}
	for _, part := range []struct {
		name                   string
		set                    func(c *api.Card, n int)
		source, creature, cast limits
	}{
		{"Rarity", func(c *api.Card, n int) { c.Rarity = n }, rarity, rarity, rarity},
		{"Of[0]", func(c *api.Card, n int) { c.Cost.Of[0] = n }, none, cost, cost},
		{"Of[1]", func(c *api.Card, n int) { c.Cost.Of[1] = n }, none, cost, cost},
		{"Of[2]", func(c *api.Card, n int) { c.Cost.Of[2] = n }, none, cost, cost},
		{"Of[3]", func(c *api.Card, n int) { c.Cost.Of[3] = n }, none, cost, cost},
		{"Any", func(c *api.Card, n int) { c.Cost.Any = n }, none, cost, cost},
		{"Makes", func(c *api.Card, n int) { c.Makes = api.Colour(n) }, colour, none, none},
		{"Power", func(c *api.Card, n int) { c.Power = n }, none, power, none},
		{"Toughness", func(c *api.Card, n int) { c.Toughness = n }, none, toughness, none},
		{"Keywords", func(c *api.Card, n int) { c.Keywords = api.Keyword(n) }, none, keywords, none},
	} {
		for _, c := range samples() {
			allowed := part.cast
			switch c.Kind {
			case api.KindSource:
				allowed = part.source
			case api.KindCreature:
				allowed = part.creature
			}
			for _, n := range numbers() {
				validates(t, with(c, func(c *api.Card) { part.set(c, n) }), n >= allowed.least && n <= allowed.most)
			}
		}
	}
}

// P7.1: what has the parts of one kind is no card of another one; spells and tricks have the same parts.
func TestValidKinds(t *testing.T) {
	for _, c := range samples() {
		for _, n := range numbers() {
			kind := api.CardKind(n)
			same := kind == c.Kind || min(kind, c.Kind) == api.KindSpell && max(kind, c.Kind) == api.KindTrick
			validates(t, with(c, func(c *api.Card) { c.Kind = kind }), same)
		}
	}
	// The parts of none is what a source of Ember and nothing else has.
	for _, n := range numbers() {
		validates(t, api.Card{Name: "a", Rarity: 1, Kind: api.CardKind(n)}, n == int(api.KindSource))
	}
}

// P7.1: a name has 1 to 32 bytes, each from 32 to 126, and no space at its ends.
func TestValidNames(t *testing.T) {
	for _, c := range samples() {
		named := func(name string, want bool) {
			t.Helper()
			validates(t, with(c, func(c *api.Card) { c.Name = name }), want)
		}
		for size := range 300 {
			named(strings.Repeat("m", size), size >= 1 && size <= 32)
			named(strings.Repeat(" ", size), false)
		}
		for one := range 256 {
			b, printed := string([]byte{byte(one)}), one >= 32 && one <= 126
			inner, outer := printed, printed && one != 32
			named(b, outer)
			for _, rest := range []string{"m", "mm", strings.Repeat("m", 31)} {
				named(b+rest, outer)
				named(rest+b, outer)
			}
			named("m"+b+"m", inner)
			named(strings.Repeat("m", 17)+b+strings.Repeat("m", 14), inner)
			named("m"+b+strings.Repeat("m", 31), false)
		}
		for _, name := range []string{"é", "aéa", "a\u2028b", "a\u00a0b", "日本", "a\x00", "a\r\nb", "a\tb", "\ufeffa", " ", "  ", " a ", "a b c"} {
			named(name, name == "a b c")
		}
	}
}

// P7.1: the effects of a source are none, those of a creature are any valid ones, and those of spells and tricks are some that do not lack a target.
func TestValidEffects(t *testing.T) {
	anywhere, itself, bad := []api.Effect{draw, bolt, growOwn, markAny, deny}, []api.Effect{grow, mark}, []api.Effect{still, lost, {}, {Code: 13}, {Code: -1}, {Code: api.EffectDraw, N: 257}, {Code: api.EffectDraw, N: 8}}
	for _, c := range samples() {
		check := func(l []api.Effect, want bool) {
			t.Helper()
			validates(t, with(c, func(c *api.Card) { c.Effects = l }), want)
		}
		creature, source := c.Kind == api.KindCreature, c.Kind == api.KindSource
		check(nil, creature || source)
		check([]api.Effect{}, creature || source)
		for size := 1; size <= 260; size++ {
			check(slices.Repeat([]api.Effect{draw}, size), !source && size <= 4)
		}
		for size := 1; size <= 4; size++ {
			for at := range size {
				put := func(e api.Effect) []api.Effect {
					l := slices.Repeat([]api.Effect{bolt}, size)
					l[at] = e
					return l
				}
				for _, e := range anywhere {
					check(put(e), !source)
				}
				for _, e := range itself {
					check(put(e), creature)
				}
				for _, e := range bad {
					check(put(e), false)
				}
			}
		}
	}
}

// triggers calls a check for lists of up to three triggers of all occasions around those that there are.
func triggers(check func(l []api.Trigger)) {
	effects := [][]api.Effect{nil, {draw}, {mark, grow}, {draw, draw, draw}, {bolt}, {draw, growOwn}, {still}, {grow, lost}, {draw, {}}}
	check(nil)
	check([]api.Trigger{})
	for first := range api.When(6) {
		for i := range effects {
			one := api.Trigger{When: first - 1, Effects: effects[i]}
			check([]api.Trigger{one})
			for second := range api.When(6) {
				for j := range effects {
					two := api.Trigger{When: second - 1, Effects: effects[j]}
					check([]api.Trigger{one, two})
					check([]api.Trigger{one, two, {When: api.WhenUpkeep, Effects: effects[1]}})
				}
			}
		}
	}
	for _, n := range numbers() {
		check([]api.Trigger{{When: api.When(n), Effects: effects[1]}})
	}
	for size := range 300 {
		check(slices.Repeat([]api.Trigger{{When: api.WhenDies, Effects: effects[1]}}, size))
		check([]api.Trigger{{When: api.WhenDies, Effects: slices.Repeat([]api.Effect{grow}, size)}})
	}
}

// goodTriggers says whether the triggers of a creature are valid, where all effects are some of those of these tests.
func goodTriggers(l []api.Trigger) bool {
	occasions := map[api.When]bool{}
	for _, t := range l {
		occasions[t.When] = true
		for _, e := range t.Effects {
			if e != draw && e != grow && e != mark {
				return false
			}
		}
		if t.When != api.WhenDies && t.When != api.WhenAttacks && t.When != api.WhenUpkeep || len(t.Effects) != 1 && len(t.Effects) != 2 {
			return false
		}
	}
	return len(occasions) == len(l) && len(l) <= 2
}

// P7.1: a creature has up to two triggers, of different occasions, with one or two effects without a target; other cards have none.
func TestValidTriggers(t *testing.T) {
	good := 0
	triggers(func(l []api.Trigger) {
		if goodTriggers(l) {
			good++
		}
		for _, c := range samples() {
			want := len(l) == 0 || c.Kind == api.KindCreature && goodTriggers(l)
			validates(t, with(c, func(c *api.Card) { c.Triggers = l }), want)
		}
	})
	if good < 30 {
		t.Errorf("%d lists of triggers are good", good)
	}
}

// changes are changes of any card, each of which leaves it unequal.
func changes() []func(c *api.Card) {
	return []func(c *api.Card){
		func(c *api.Card) { c.Name += "?" }, func(c *api.Card) { c.Name = c.Name[:len(c.Name)-1] }, func(c *api.Card) { c.Name = strings.ToUpper(c.Name) + strings.ToLower(c.Name) }, func(c *api.Card) { c.Kind++ }, func(c *api.Card) { c.Kind += 256 }, func(c *api.Card) { c.Rarity-- }, func(c *api.Card) { c.Rarity += 1 << 32 },
		func(c *api.Card) { c.Cost.Of[0]++ }, func(c *api.Card) { c.Cost.Of[1]-- }, func(c *api.Card) { c.Cost.Of[2] += 256 }, func(c *api.Card) { c.Cost.Of[3]++ }, func(c *api.Card) { c.Cost.Any += 100 }, func(c *api.Card) { c.Makes++ },
		func(c *api.Card) { c.Power++ }, func(c *api.Card) { c.Toughness++ }, func(c *api.Card) { c.Power, c.Toughness = c.Toughness+1, c.Power }, func(c *api.Card) { c.Keywords ^= 1 }, func(c *api.Card) { c.Keywords ^= 8 }, func(c *api.Card) { c.Keywords ^= 1 << 20 },
		func(c *api.Card) { c.Effects = append(c.Effects, draw) }, func(c *api.Card) { c.Effects = slices.Insert(c.Effects, 0, lost) }, func(c *api.Card) { c.Effects = append(c.Effects, api.Effect{}) },
		func(c *api.Card) { c.Triggers = append(c.Triggers, api.Trigger{}) }, func(c *api.Card) {
			c.Triggers = slices.Insert(c.Triggers, 0, api.Trigger{When: 3, Effects: []api.Effect{draw}})
		},
	}
}

// inside are changes of a card with two effects and two triggers, each of which leaves it unequal.
func inside() []func(c *api.Card) {
	return []func(c *api.Card){
		func(c *api.Card) { c.Effects = nil }, func(c *api.Card) { c.Effects = c.Effects[1:] }, func(c *api.Card) { c.Effects = c.Effects[:1] }, func(c *api.Card) { slices.Reverse(c.Effects) },
		func(c *api.Card) { c.Effects[1].Code++ }, func(c *api.Card) { c.Effects[0].Target++ }, func(c *api.Card) { c.Effects[1].N++ }, func(c *api.Card) { c.Effects[0].M++ }, func(c *api.Card) { c.Effects[1].Colour++ },
		func(c *api.Card) { c.Triggers = nil }, func(c *api.Card) { c.Triggers = c.Triggers[1:] }, func(c *api.Card) { c.Triggers = c.Triggers[:1] }, func(c *api.Card) { slices.Reverse(c.Triggers) },
		func(c *api.Card) { c.Triggers[0].When++ }, func(c *api.Card) { c.Triggers[1].When += 256 }, func(c *api.Card) { c.Triggers[0].Effects = nil }, func(c *api.Card) { slices.Reverse(c.Triggers[0].Effects) },
		func(c *api.Card) { c.Triggers[0].Effects = append(c.Triggers[0].Effects, draw) }, func(c *api.Card) { c.Triggers[1].Effects[0].N++ }, func(c *api.Card) { c.Triggers[1].Effects[0].Target++ }, func(c *api.Card) { c.Triggers[0].Effects[1].Colour-- },
	}
}

// equals checks what Equal says of two cards, in both orders.
func equals(t *testing.T, a, b api.Card, want bool) {
	t.Helper()
	if card.Equal(a, b) != want || card.Equal(b, a) != want {
		t.Fatalf("Equal of %v and %v is not %v", a, b, want)
	}
}

// P7.1: cards are equal if all their parts are, valid or not, and nil lists are empty ones.
func TestEqual(t *testing.T) {
	for i, a := range samples() {
		for j, b := range samples() {
			equals(t, a, b, i == j)
		}
		for j, change := range changes() {
			changed := with(a, change)
			equals(t, a, changed, false)
			for k, other := range changes() {
				if j == k {
					equals(t, changed, with(a, other), true)
				}
			}
		}
	}
	both := with(giant(), func(c *api.Card) { c.Effects = c.Effects[:2] })
	for _, change := range inside() {
		equals(t, both, with(both, change), false)
	}
	equals(t, api.Card{}, api.Card{Effects: []api.Effect{}, Triggers: []api.Trigger{}}, true)
	equals(t, api.Card{Triggers: []api.Trigger{{When: 9}}}, api.Card{Triggers: []api.Trigger{{When: 9, Effects: []api.Effect{}}}}, true)
	equals(t, api.Card{Triggers: []api.Trigger{{}}}, api.Card{}, false)
	equals(t, api.Card{Effects: []api.Effect{{}}}, api.Card{}, false)
	for _, c := range invalid() {
		equals(t, c, card.Copy(c), true)
	}
}

// P7.1: a set has all keywords of another one just if it has each of their bits, whatever these are.
func TestHas(t *testing.T) {
	for _, c := range []struct {
		k, one api.Keyword
		want   bool
	}{
		{api.Flying | api.Deadly, api.Deadly, true}, {api.Flying, api.Flying | api.Deadly, false}, {api.Flying, 0, true}, {0, 0, true}, {0, api.Swift, false},
		{16, 16, true}, {15, 16, false}, {16, 0, true}, {-1, math.MaxInt, true}, {math.MaxInt, -1, false}, {-1, -1, true}, {-1, math.MinInt, true}, {math.MinInt, 1, false}, {-2, 1, false}, {1 << 40, 1 << 40, true}, {1 << 40, 1 << 8, false},
	} {
		if got := card.Has(c.k, c.one); got != c.want {
			t.Errorf("Has(%d, %d) = %v", c.k, c.one, got)
		}
	}
	for _, k := range numbers() {
		for _, one := range numbers() {
			want := true
			for bit := range 64 {
				if uint64(one)>>bit%2 == 1 && uint64(k)>>bit%2 == 0 {
					want = false
				}
			}
			if got := card.Has(api.Keyword(k), api.Keyword(one)); got != want {
				t.Fatalf("Has(%d, %d) = %v", k, one, got)
			}
		}
	}
}

// spoil changes all that the lists of a card have.
func spoil(c api.Card) {
	for _, t := range c.Triggers {
		for i := range t.Effects {
			t.Effects[i].N = 77
		}
	}
	clear(c.Triggers)
	clear(c.Effects)
}

// P7.3: a copy is equal, valid or not, and shares no memory.
func TestCopy(t *testing.T) {
	cards := func() []api.Card {
		all := append(valid(), invalid()...)
		for _, change := range append(changes(), inside()...) {
			all = append(all, with(with(giant(), func(c *api.Card) { c.Effects = c.Effects[:2] }), change))
		}
		return append(all, api.Card{Effects: make([]api.Effect, 1000), Triggers: slices.Repeat([]api.Trigger{{When: -7, Effects: []api.Effect{lost, {}, draw}}}, 300)})
	}
	again := cards()
	for i, c := range cards() {
		first, second := card.Copy(c), card.Copy(c)
		equals(t, c, first, true)
		spoil(first)
		equals(t, again[i], c, true)
		spoil(c)
		equals(t, again[i], second, true)
	}
	if c := card.Copy(api.Card{}); !card.Equal(c, api.Card{}) {
		t.Errorf("the copy of nothing is %v", c)
	}
	// The room behind a list is memory, too.
	c := with(giant(), func(c *api.Card) {
		c.Effects, c.Triggers = make([]api.Effect, 0, 4), make([]api.Trigger, 1, 4)
		c.Triggers[0].Effects = make([]api.Effect, 0, 4)
	})
	d := card.Copy(c)
	_, _, _ = append(d.Effects, draw), append(d.Triggers, wisp().Triggers...), append(d.Triggers[0].Effects, draw)
	if c.Effects[:1][0] != (api.Effect{}) || c.Triggers[:2][1].When != 0 || c.Triggers[0].Effects[:1][0] != (api.Effect{}) {
		t.Error("the copy has the room of the card")
	}
}
