package card_test

import (
	"bytes"
	"slices"
	"testing"

	"zeitnot/api"
	"zeitnot/card"
	"zeitnot/effect"
)

// examples are the cards of the chapter with their bytes.
func examples() map[string][]byte {
	return map[string][]byte{
		"Well": {1, 1, 4, 87, 101, 108, 108, 0, 0, 0, 0, 0, 1, 0, 0, 0, 0, 0},
		"Wisp": {2, 2, 4, 87, 105, 115, 112, 0, 1, 0, 0, 1, 0, 1, 2, 2, 0, 1, 1, 1, 2, 0, 1, 0, 0},
		"Jolt": {4, 1, 4, 74, 111, 108, 116, 1, 0, 0, 0, 0, 0, 0, 0, 0, 1, 1, 5, 3, 0, 0, 0},
		"x":    {2, 1, 1, 120, 0, 0, 0, 0, 0, 0, 0, 1, 0, 0, 0},
		"Hex of 7": {
			3, 4, 8, 72, 101, 120, 32, 111, 102, 32, 55, 0, 0, 2, 1, 12, 0, 0, 0, 0,
			4, 7, 6, 0, 0, 0, 2, 0, 1, 0, 0, 8, 2, 9, 0, 0, 9, 1, 1, 0, 0, 0,
		},
	}
}

// bytesOf returns the bytes of a valid card, put together from lists of numbers.
func bytesOf(c api.Card) []byte {
	out := []byte{}
	add := func(l ...int) {
		for _, n := range l {
			out = append(out, byte(n))
		}
	}
	effects := func(l []api.Effect) {
		add(len(l))
		for _, e := range l {
			add(int(e.Code), int(e.Target), e.N, e.M, int(e.Colour))
		}
	}
	add(int(c.Kind), c.Rarity, len(c.Name))
	out = append(out, []byte(c.Name)...)
	add(c.Cost.Of[api.Ember], c.Cost.Of[api.Tide], c.Cost.Of[api.Leaf], c.Cost.Of[api.Stone], c.Cost.Any)
	add(int(c.Makes), c.Power, c.Toughness, int(c.Keywords))
	effects(c.Effects)
	add(len(c.Triggers))
	for _, t := range c.Triggers {
		add(int(t.When))
		effects(t.Effects)
	}
	return out
}

// decodes checks what Decode returns for some bytes.
func decodes(t *testing.T, b []byte, want api.Card, size int, err api.Errno) {
	t.Helper()
	kept := bytes.Clone(b)
	got, n, e := card.Decode(b)
	if !card.Equal(got, want) || n != size || e != err {
		t.Fatalf("Decode(%v) = %v, %d, error %d; want %v, %d, %d", b, got, n, e, want, size, err)
	}
	if !bytes.Equal(b, kept) {
		t.Fatalf("Decode(%v) has changed its argument", kept)
	}
}

// fails checks that Decode returns an error for some bytes, and nothing else.
func fails(t *testing.T, b []byte, err api.Errno) {
	t.Helper()
	decodes(t, b, api.Card{}, 0, err)
}

// P7.2: the chapter's examples.
func TestBytesExamples(t *testing.T) {
	for _, c := range samples() {
		want, in := examples()[c.Name]
		if !in {
			continue
		}
		if got, e := card.Encode(c); !bytes.Equal(got, want) || e != api.OK {
			t.Errorf("Encode(%v) = %v, error %d; want %v", c, got, e, want)
		}
		decodes(t, want, c, len(want), api.OK)
	}
	fails(t, examples()["Well"][:17], api.ErrShort)
	fails(t, []byte{9, 1, 1, 65, 0, 0, 0, 0, 0, 0, 0, 0, 0, 0, 0}, api.ErrFormat)
	fails(t, []byte{1, 1, 33}, api.ErrFormat)
}

// P7.2, P7.4: each valid card has its bytes, not more than there may be, and Decode inverts Encode, whatever follows.
func TestEncode(t *testing.T) {
	longest := 0
	for _, c := range valid() {
		kept := card.Copy(c)
		want := bytesOf(c)
		got, e := card.Encode(c)
		if !bytes.Equal(got, want) || e != api.OK {
			t.Fatalf("Encode(%v) = %v, error %d; want %v", c, got, e, want)
		}
		equals(t, kept, c, true)
		for _, follows := range [][]byte{nil, {0}, {255}, {1, 7, 6, 0, 0, 0}, bytes.Repeat([]byte{200}, 300), make([]byte, 300), want} {
			decodes(t, slices.Concat(got, follows), c, len(want), api.OK)
		}
		longest = max(longest, len(got))
	}
	if longest != 90 || longest > card.MaxSize {
		t.Errorf("the longest card has %d bytes", longest)
	}
}

// P7.2: cards that are not valid have no bytes.
func TestEncodeNot(t *testing.T) {
	for _, c := range invalid() {
		if got, e := card.Encode(c); len(got) != 0 || e != api.ErrArg {
			t.Errorf("Encode(%v) = %v, error %d; want ErrArg", c, got, e)
		}
	}
}

// writable says whether each part of a card that is not valid has its place in the bytes of a card.
func writable(c api.Card) bool {
	if len(c.Name) > api.MaxName || len(c.Effects) > effect.MaxEffects || len(c.Triggers) > card.MaxTriggers {
		return false
	}
	for _, n := range []int{int(c.Kind), c.Rarity, c.Cost.Of[3], c.Cost.Any, int(c.Makes), c.Power, c.Toughness, int(c.Keywords)} {
		if n != int(byte(n)) {
			return false
		}
	}
	return true
}

// P7.2: what is written like a card, but is not a valid one, is no format.
func TestDecodeNot(t *testing.T) {
	tried := 0
	for _, c := range invalid() {
		if !writable(c) {
			continue
		}
		tried++
		b := bytesOf(c)
		fails(t, b, api.ErrFormat)
		fails(t, append(b, 0), api.ErrFormat)
	}
	if tried < 100 {
		t.Errorf("%d cards were tried", tried)
	}
}

// P7.2, P7.4: each proper beginning of the bytes of a card is too short, also where what is there is not valid.
func TestDecodeShort(t *testing.T) {
	fails(t, nil, api.ErrShort)
	fails(t, []byte{}, api.ErrShort)
	for _, c := range valid() {
		b := bytesOf(c)
		for size := range b {
			fails(t, b[:size], api.ErrShort)
		}
	}
	for _, c := range samples() {
		b := bytesOf(c)
		at := 3 + len(c.Name)
		for size := range b {
			// The kind, the rarity, the bytes of the name and the nine numbers behind it are not looked at before all is read.
			for place := range size {
				if place == 2 || place > at+8 {
					continue
				}
				for _, n := range []byte{0, 5, 16, 21, 127, 255} {
					changed := bytes.Clone(b[:size])
					changed[place] = n
					fails(t, changed, api.ErrShort)
				}
			}
		}
	}
}

// P7.2: what is met first is said: a length or a number that is too great ends the reading, bytes that are missing end it elsewhere.
func TestDecodeFirst(t *testing.T) {
	head := []byte{2, 1, 1, 'x', 0, 0, 0, 0, 0, 0, 1, 1, 0} // up to the keywords
	bad := []byte{9, 9, 1, 0, 99, 99, 99, 99, 99, 99, 99, 99, 99}
	for _, c := range []struct {
		follows []byte
		err     api.Errno
	}{
		{nil, api.ErrShort}, {[]byte{0}, api.ErrShort}, {[]byte{1}, api.ErrShort}, {[]byte{4}, api.ErrShort}, {[]byte{5}, api.ErrFormat}, {[]byte{255}, api.ErrFormat},
		{[]byte{1, 7, 6, 0, 0}, api.ErrShort}, {[]byte{1, 7, 6, 0, 0, 0}, api.ErrShort}, {[]byte{1, 7, 6, 0, 0, 1}, api.ErrFormat}, {[]byte{1, 0, 0, 0, 0}, api.ErrShort}, {[]byte{1, 0, 0, 0, 0, 0}, api.ErrFormat},
		{[]byte{2, 0, 0, 0, 0, 0}, api.ErrShort}, {[]byte{2, 0, 0, 0, 0, 0, 7, 6, 0, 0}, api.ErrShort}, {[]byte{2, 0, 0, 0, 0, 0, 7, 6, 0, 0, 0}, api.ErrFormat}, {[]byte{2, 7, 6, 0, 0, 0, 0, 0, 0, 0, 0}, api.ErrFormat},
		{[]byte{0, 3}, api.ErrFormat}, {[]byte{0, 255}, api.ErrFormat}, {[]byte{0, 2}, api.ErrShort}, {[]byte{0, 1}, api.ErrShort}, {[]byte{0, 1, 1}, api.ErrShort}, {[]byte{0, 1, 4}, api.ErrShort}, {[]byte{0, 1, 255, 1}, api.ErrShort},
		{[]byte{0, 1, 1, 5}, api.ErrFormat}, {[]byte{0, 1, 1, 4}, api.ErrShort}, {[]byte{0, 1, 1, 1, 2, 0, 1, 0}, api.ErrShort}, {[]byte{0, 1, 1, 1, 2, 0, 8, 0, 0}, api.ErrFormat}, {[]byte{0, 1, 0, 1, 2, 0, 1, 0, 0}, api.ErrFormat},
		{[]byte{0, 2, 1, 1, 2, 0, 1, 0, 0}, api.ErrShort}, {[]byte{0, 2, 1, 1, 2, 0, 8, 0, 0}, api.ErrFormat}, {[]byte{0, 2, 1, 1, 2, 0, 1, 0, 0, 1, 5}, api.ErrFormat}, {[]byte{0, 2, 1, 1, 2, 0, 1, 0, 0, 1, 1, 2}, api.ErrShort},
		{[]byte{0, 2, 0, 0, 0}, api.ErrShort}, {[]byte{0, 2, 9, 3, 2, 0, 1, 0, 0}, api.ErrShort}, {[]byte{0, 1, 1, 0}, api.ErrFormat}, {[]byte{0, 2, 1, 1, 1, 5, 3, 0, 0}, api.ErrShort},
	} {
		fails(t, append(bytes.Clone(head), c.follows...), c.err)
		// Whether a card is valid is found out last.
		fails(t, append(bytes.Clone(bad), c.follows...), c.err)
	}
	for size := range 256 {
		err := api.ErrShort
		if size > api.MaxName {
			err = api.ErrFormat
		}
		fails(t, []byte{1, 1, byte(size)}, err)
		fails(t, []byte{77, 77, byte(size)}, err)
		if size > 0 {
			fails(t, append([]byte{1, 1, byte(size)}, bytes.Repeat([]byte{'m'}, size-1)...), err)
		}
	}
	// A name without bytes is read, and found out last.
	fails(t, make([]byte, 13), api.ErrShort)
	fails(t, make([]byte, 14), api.ErrFormat)
	fails(t, []byte{1, 1, 0, 0, 0, 0, 0, 0, 0, 0, 0, 0, 0, 0}, api.ErrFormat)
}

// expects returns what Decode must return for some bytes, which are long enough for any card.
func expects(b []byte) (api.Card, int, api.Errno) {
	name := int(b[2])
	if name > 32 {
		return api.Card{}, 0, api.ErrFormat
	}
	numbers := b[3+name:]
	c := api.Card{Kind: api.CardKind(b[0]), Rarity: int(b[1]), Name: string(b[3 : 3+name])}
	c.Cost = api.Cost{Of: api.Mana{int(numbers[0]), int(numbers[1]), int(numbers[2]), int(numbers[3])}, Any: int(numbers[4])}
	c.Makes, c.Power, c.Toughness, c.Keywords = api.Colour(numbers[5]), int(numbers[6]), int(numbers[7]), api.Keyword(numbers[8])
	at := 3 + name + 9
	l, size, e := effect.Decode(b[at:])
	if e != api.OK || b[at+size] > 2 {
		return api.Card{}, 0, api.ErrFormat
	}
	c.Effects = l
	many := b[at+size]
	for at += size + 1; many > 0; many-- {
		if l, size, e = effect.Decode(b[at+1:]); e != api.OK {
			return api.Card{}, 0, api.ErrFormat
		}
		c.Triggers = append(c.Triggers, api.Trigger{When: api.When(b[at]), Effects: l})
		at += 1 + size
	}
	if !card.Valid(c) {
		return api.Card{}, 0, api.ErrFormat
	}
	return c, at, api.OK
}

// P7.2, P7.4: the bytes of a card with one other byte are those of the card that is written there, or no format; what is decoded has just the bytes that were there.
func TestDecodeChanged(t *testing.T) {
	found := 0
	for _, c := range samples() {
		b := bytesOf(c)
		for at := range b {
			for n := range 256 {
				changed := append(bytes.Clone(b), make([]byte, 200)...)
				changed[at] = byte(n)
				want, size, err := expects(changed)
				decodes(t, changed, want, size, err)
				if err != api.OK {
					continue
				}
				found++
				if again, e := card.Encode(want); !bytes.Equal(again, changed[:size]) || e != api.OK {
					t.Fatalf("Encode(%v) = %v, error %d; want %v", want, again, e, changed[:size])
				}
				for short := range size {
					fails(t, changed[:short], api.ErrShort)
				}
			}
		}
	}
	if found < 3000 {
		t.Errorf("%d changed cards were decoded", found)
	}
}

// P7.2: results share no memory with arguments or with each other.
func TestSharing(t *testing.T) {
	for _, c := range samples() {
		first, _ := card.Encode(c)
		second, _ := card.Encode(c)
		clear(first)
		if !bytes.Equal(second, bytesOf(c)) {
			t.Errorf("the bytes have become %v", second)
		}
		once, _, _ := card.Decode(second)
		again, _, _ := card.Decode(second)
		clear(second)
		equals(t, once, c, true)
		spoil(once)
		equals(t, again, c, true)
	}
}
