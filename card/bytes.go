package card

import (
	"math"

	"zeitnot/api"
	"zeitnot/effect"
)

// reader takes the parts of a card from the front of bytes; after its first error it takes nothing more.
type reader struct {
	rest []byte
	err  api.Errno
}

// Encode returns the bytes of a card, or an error.
func Encode(c api.Card) ([]byte, api.Errno) {
	if !Valid(c) {
		return nil, api.ErrArg
	}
	b := []byte{byte(c.Kind), byte(c.Rarity), byte(len(c.Name))}
	b = append(b, c.Name...)
	for _, of := range c.Cost.Of {
		b = append(b, byte(of))
	}
	b = append(b, byte(c.Cost.Any), byte(c.Makes), byte(c.Power), byte(c.Toughness), byte(c.Keywords))
	b = append(b, effectBytes(c.Effects)...)
	b = append(b, byte(len(c.Triggers)))
	for _, t := range c.Triggers {
		b = append(b, byte(t.When))
		b = append(b, effectBytes(t.Effects)...)
	}
	return b, api.OK
}

// Decode returns the card that bytes begin with, and how many bytes it has, or an error.
func Decode(b []byte) (c api.Card, size int, e api.Errno) {
	r := &reader{rest: b}
	c = r.card()
	switch {
	case r.err != api.OK:
		return api.Card{}, 0, r.err
	case !Valid(c):
		return api.Card{}, 0, api.ErrFormat
	}
	return c, len(b) - len(r.rest), api.OK
}

// effectBytes returns the bytes of effects that are valid.
func effectBytes(l []api.Effect) []byte {
	b, _ := effect.Encode(l)
	return b
}

// card takes a card, valid or not; one that is not whole is of no use.
func (r *reader) card() api.Card {
	c := api.Card{}
	c.Kind = api.CardKind(r.number(math.MaxUint8))
	c.Rarity = r.number(math.MaxUint8)
	c.Name = string(r.take(r.number(api.MaxName)))
	for colour := range c.Cost.Of {
		c.Cost.Of[colour] = r.number(math.MaxUint8)
	}
	c.Cost.Any = r.number(math.MaxUint8)
	c.Makes = api.Colour(r.number(math.MaxUint8))
	c.Power = r.number(math.MaxUint8)
	c.Toughness = r.number(math.MaxUint8)
	c.Keywords = api.Keyword(r.number(math.MaxUint8))
	c.Effects = r.effects()
	for range r.number(MaxTriggers) {
		when := api.When(r.number(math.MaxUint8))
		c.Triggers = append(c.Triggers, api.Trigger{When: when, Effects: r.effects()})
	}
	return c
}

// number takes a number that is at most a maximum.
func (r *reader) number(most int) int {
	part := r.take(1)
	switch {
	case r.err != api.OK:
		return 0
	case int(part[0]) > most:
		r.err = api.ErrFormat
		return 0
	}
	return int(part[0])
}

// effects takes the bytes of effects.
func (r *reader) effects() []api.Effect {
	if r.err != api.OK {
		return nil
	}
	l, size, e := effect.Decode(r.rest)
	r.rest, r.err = r.rest[size:], e
	return l
}

// take takes some bytes; none, if there are fewer.
func (r *reader) take(n int) []byte {
	if r.err == api.OK && n > len(r.rest) {
		r.err = api.ErrShort
	}
	if r.err != api.OK {
		return nil
	}
	part := r.rest[:n]
	r.rest = r.rest[n:]
	return part
}
