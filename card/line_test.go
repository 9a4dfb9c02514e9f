package card_test

import (
	"strconv"
	"strings"
	"testing"

	"zeitnot/api"
	"zeitnot/card"
	"zeitnot/effect"
	"zeitnot/mana"
)

// P7.3: the chapter's examples, and cards with each word that a line may have.
func TestLine(t *testing.T) {
	for _, x := range []struct {
		c    api.Card
		want string
	}{
		{well(), "Well, source of T"}, {wisp(), "Wisp, creature 1T, 1/2, flying, dies: draw 1"}, {jolt(), "Jolt, trick E, damage 3 either"}, {plain(), "x, creature 0, 0/1"},
		{hex(), "Hex of 7, spell 12LLS, counter spell, draw 1, pump 9 0 own, counters 1 creature"},
		{giant(), "Giant ~ Giant ~ Giant ~ Giant ~!, creature 20" + strings.Repeat("E", 20) + strings.Repeat("T", 20) + strings.Repeat("L", 20) + strings.Repeat("S", 20) +
			", 20/20, swift, flying, watchful, deadly, damage 3 either, pump 1 2, counter spell, counters 3, upkeep: pump 1 2 and draw 1, attacks: counters 3 and counters 3"},
		{api.Card{Name: "a, b", Kind: api.KindSource, Makes: api.Ember, Rarity: 3}, "a, b, source of E"},
		{api.Card{Name: "Moss", Kind: api.KindSource, Makes: api.Leaf, Rarity: 4}, "Moss, source of L"}, {api.Card{Name: "Crag", Kind: api.KindSource, Makes: api.Stone, Rarity: 1}, "Crag, source of S"},
		{api.Card{Name: "Gift", Kind: api.KindSpell, Effects: []api.Effect{draw}, Rarity: 1}, "Gift, spell 0, draw 1"},
		{with(plain(), func(c *api.Card) { c.Keywords = api.Swift }), "x, creature 0, 0/1, swift"}, {with(plain(), func(c *api.Card) { c.Keywords = api.Watchful }), "x, creature 0, 0/1, watchful"},
		{with(plain(), func(c *api.Card) { c.Keywords = api.Deadly | api.Flying }), "x, creature 0, 0/1, flying, deadly"}, {with(plain(), func(c *api.Card) { c.Effects = []api.Effect{bolt} }), "x, creature 0, 0/1, damage 3 either"},
		{with(plain(), func(c *api.Card) { c.Cost.Of[api.Stone] = 1 }), "x, creature S, 0/1"},
		{with(plain(), func(c *api.Card) {
			c.Triggers = []api.Trigger{{When: api.WhenAttacks, Effects: []api.Effect{mark}}, {When: api.WhenDies, Effects: []api.Effect{draw, {Code: api.EffectMana, N: 2, Colour: api.Leaf}}}}
		}), "x, creature 0, 0/1, attacks: counters 3, dies: draw 1 and mana 2 L"},
	} {
		if got, e := card.Line(x.c); got != x.want || e != api.OK {
			t.Errorf("Line(%v) = %q, error %d; want %q", x.c, got, e, x.want)
		}
	}
}

// lineOf returns the line of a valid card, part by part.
func lineOf(c api.Card) string {
	out := c.Name + ", " + map[api.CardKind]string{api.KindSource: "source of ", api.KindCreature: "creature ", api.KindSpell: "spell ", api.KindTrick: "trick "}[c.Kind]
	if c.Kind == api.KindSource {
		letter, _ := mana.Letter(c.Makes)
		return out + letter
	}
	cost, _ := mana.Text(c.Cost)
	out += cost
	if c.Kind == api.KindCreature {
		out += ", " + strconv.Itoa(c.Power) + "/" + strconv.Itoa(c.Toughness)
	}
	for _, one := range []api.Keyword{api.Swift, api.Flying, api.Watchful, api.Deadly} {
		if c.Keywords/one%2 == 1 {
			out += ", " + map[api.Keyword]string{api.Swift: "swift", api.Flying: "flying", api.Watchful: "watchful", api.Deadly: "deadly"}[one]
		}
	}
	for _, e := range c.Effects {
		text, _ := effect.Text(e)
		out += ", " + text
	}
	for _, one := range c.Triggers {
		out += ", " + map[api.When]string{api.WhenDies: "dies: ", api.WhenAttacks: "attacks: ", api.WhenUpkeep: "upkeep: "}[one.When]
		for i, e := range one.Effects {
			if i > 0 {
				out += " and "
			}
			text, _ := effect.Text(e)
			out += text
		}
	}
	return out
}

// P7.3, P7.4: each valid card has its line, without a line feed.
func TestLines(t *testing.T) {
	for _, c := range valid() {
		want := lineOf(c)
		if got, e := card.Line(c); got != want || e != api.OK || strings.ContainsAny(got, "\n\r") {
			t.Errorf("Line(%v) = %q, error %d; want %q", c, got, e, want)
		}
	}
}

// P7.3: cards that are not valid have no line.
func TestLineNot(t *testing.T) {
	for _, c := range invalid() {
		if got, e := card.Line(c); got != "" || e != api.ErrArg {
			t.Errorf("Line(%v) = %q, error %d; want ErrArg", c, got, e)
		}
	}
}
