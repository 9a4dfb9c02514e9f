package card

import (
	"strconv"
	"strings"

	"zeitnot/api"
	"zeitnot/effect"
	"zeitnot/mana"
)

// keywordWords are the words of the keywords, in the order of their bits.
var keywordWords = [...]string{"swift", "flying", "watchful", "deadly"}

// whenWords are the words of the occasions, by their numbers.
var whenWords = [...]string{"", "dies", "attacks", "upkeep"}

// Line returns a card as one line of text, or an error.
func Line(c api.Card) (string, api.Errno) {
	if !Valid(c) {
		return "", api.ErrArg
	}
	parts := []string{c.Name, kindText(c)}
	if c.Kind == api.KindCreature {
		parts = append(parts, strconv.Itoa(c.Power)+"/"+strconv.Itoa(c.Toughness))
	}
	for bit, word := range keywordWords {
		if Has(c.Keywords, 1<<bit) {
			parts = append(parts, word)
		}
	}
	parts = append(parts, effectTexts(c.Effects)...)
	for _, t := range c.Triggers {
		parts = append(parts, whenWords[t.When]+": "+strings.Join(effectTexts(t.Effects), " and "))
	}
	return strings.Join(parts, ", "), api.OK
}

// kindText returns the kind of a valid card, with what it makes or costs.
func kindText(c api.Card) string {
	cost, _ := mana.Text(c.Cost)
	switch c.Kind {
	case api.KindSource:
		letter, _ := mana.Letter(c.Makes)
		return "source of " + letter
	case api.KindCreature:
		return "creature " + cost
	case api.KindSpell:
		return "spell " + cost
	}
	return "trick " + cost
}

// effectTexts returns the texts of effects that are valid.
func effectTexts(l []api.Effect) []string {
	texts := []string{}
	for _, e := range l {
		text, _ := effect.Text(e)
		texts = append(texts, text)
	}
	return texts
}
