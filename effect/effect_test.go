package effect_test

import (
	"bytes"
	"math"
	"slices"
	"strconv"
	"strings"
	"testing"

	"zeitnot/api"
	"zeitnot/effect"
)

// of returns an effect.
func of(code api.EffectCode, kind api.TargetKind, n, m int, colour api.Colour) api.Effect {
	return api.Effect{Code: code, Target: kind, N: n, M: m, Colour: colour}
}

// aimed are the words that follow the numbers of an effect, for each target kind.
var aimed = map[api.TargetKind]string{
	api.TargetNone: "", api.TargetCreature: " creature", api.TargetOwn: " own", api.TargetOther: " other",
	api.TargetPlayer: " player", api.TargetEither: " either", api.TargetSpell: " spell",
}

// texts returns all valid effects with their texts, written down from the chapter's table, row by row.
func texts() map[api.Effect]string {
	out := map[api.Effect]string{}
	add := func(text string, code api.EffectCode, n, m int, colour api.Colour, kinds ...api.TargetKind) {
		for _, kind := range kinds {
			out[of(code, kind, n, m, colour)] = text + aimed[kind]
		}
	}
	for n := 1; n <= 99; n++ {
		amount := " " + strconv.Itoa(n)
		add("damage"+amount, api.EffectDamage, n, 0, 0, api.TargetCreature, api.TargetOwn, api.TargetOther, api.TargetPlayer, api.TargetEither)
		add("gain"+amount, api.EffectGain, n, 0, 0, api.TargetNone, api.TargetPlayer)
		add("lose"+amount, api.EffectLose, n, 0, 0, api.TargetNone, api.TargetPlayer)
		if n <= 7 {
			add("draw"+amount, api.EffectDraw, n, 0, 0, api.TargetNone, api.TargetPlayer)
		}
		if n <= 9 {
			add("counters"+amount, api.EffectCounters, n, 0, 0, api.TargetNone, api.TargetCreature, api.TargetOwn, api.TargetOther)
			for colour, letter := range []string{"E", "T", "L", "S"} {
				add("mana"+amount+" "+letter, api.EffectMana, n, 0, api.Colour(colour), api.TargetNone)
			}
		}
		// From 1 to 99 the two digits are those that are not both 0.
		add("pump "+strconv.Itoa(n/10)+" "+strconv.Itoa(n%10), api.EffectPump, n/10, n%10, 0, api.TargetNone, api.TargetCreature, api.TargetOwn, api.TargetOther)
		if n%10 != 0 {
			add("token "+strconv.Itoa(n/10)+" "+strconv.Itoa(n%10), api.EffectToken, n/10, n%10, 0, api.TargetNone)
		}
	}
	add("destroy", api.EffectDestroy, 0, 0, 0, api.TargetCreature, api.TargetOwn, api.TargetOther)
	add("return", api.EffectReturn, 0, 0, 0, api.TargetCreature, api.TargetOwn, api.TargetOther)
	add("tap", api.EffectTap, 0, 0, 0, api.TargetCreature, api.TargetOwn, api.TargetOther)
	add("counter", api.EffectCounter, 0, 0, 0, api.TargetSpell)
	return out
}

// valid returns all valid effects, by their texts' order.
func valid() []api.Effect {
	byText := map[string]api.Effect{}
	words := []string{}
	for e, text := range texts() {
		byText[text] = e
		words = append(words, text)
	}
	slices.Sort(words)
	out := []api.Effect{}
	for _, text := range words {
		out = append(out, byText[text])
	}
	return out
}

// far are numbers that no effect has, and that look like small ones if they are cut.
var far = []int{-1, -2, -99, -256, 100, 101, 255, 256, 257, 259, 512, 1 << 16, 1<<16 + 1, 1 << 32, 1<<32 + 1, math.MaxInt - 1, math.MaxInt, math.MinInt, math.MinInt + 1}

// around calls a check for effects all around the valid ones: for each of these every number, code and kind is changed.
func around(check func(e api.Effect)) {
	near := append([]int{0, 1, 2, 3, 4, 5, 6, 7, 8, 9, 10, 11, 12, 13, 14, 50, 98, 99}, far...)
	for _, e := range valid() {
		for _, n := range near {
			check(of(api.EffectCode(n), e.Target, e.N, e.M, e.Colour))
			check(of(e.Code, api.TargetKind(n), e.N, e.M, e.Colour))
			check(of(e.Code, e.Target, n, e.M, e.Colour))
			check(of(e.Code, e.Target, e.N, n, e.Colour))
			check(of(e.Code, e.Target, e.N, e.M, api.Colour(n)))
		}
	}
}

// small calls a check for all effects with small codes, kinds and numbers, and one around each of the limits.
func small(check func(e api.Effect)) {
	for code := range api.EffectCode(15) {
		for kind := range api.TargetKind(9) {
			for _, n := range []int{-1, 0, 1, 2, 7, 8, 9, 10, 98, 99, 100} {
				for _, m := range []int{-1, 0, 1, 8, 9, 10, 99} {
					for colour := range api.Colour(7) {
						check(of(code-1, kind-1, n, m, colour-1))
					}
				}
			}
		}
	}
}

// invalid returns some effects that are not valid, one for each way.
func invalid() []api.Effect {
	return []api.Effect{
		{}, of(-1, 0, 1, 0, 0), of(13, 0, 1, 0, 0), of(257, 5, 3, 0, 0), of(1, 0, 3, 0, 0), of(1, 6, 3, 0, 0), of(1, 7, 3, 0, 0), of(1, -1, 3, 0, 0),
		of(1, 5, 0, 0, 0), of(1, 5, 100, 0, 0), of(1, 5, 259, 0, 0), of(1, 5, -1, 0, 0), of(1, 5, 3, 1, 0), of(1, 5, 3, 0, 1), of(2, 0, 8, 0, 0), of(2, 1, 2, 0, 0),
		of(5, 2, 1, 0, 0), of(7, 0, 0, 0, 0), of(8, 0, 0, 0, 0), of(8, 1, 10, 0, 0), of(8, 4, 1, 1, 0), of(10, 0, 1, 0, 0), of(10, 2, 1, 1, 0), of(12, 0, 1, 0, 4), of(12, 0, 1, 0, -1), of(12, 0, 0, 0, 1),
	}
}

// P6.1: the chapter's examples, the limits of each row of the table, and effects next to them.
func TestValid(t *testing.T) {
	if effect.MaxEffects != 4 || effect.Size != 5 {
		t.Errorf("MaxEffects = %d, Size = %d", effect.MaxEffects, effect.Size)
	}
	for _, c := range []struct {
		e    api.Effect
		want bool
	}{
		{of(api.EffectDamage, api.TargetEither, 3, 0, 0), true}, {of(api.EffectDamage, api.TargetEither, 0, 0, 0), false},
		{of(api.EffectDamage, api.TargetOther, 99, 0, 0), true}, {of(api.EffectDamage, api.TargetOther, 100, 0, 0), false},
		{of(api.EffectDamage, api.TargetNone, 3, 0, 0), false}, {of(api.EffectDamage, api.TargetSpell, 3, 0, 0), false},
		{of(api.EffectDraw, api.TargetCreature, 2, 0, 0), false}, {of(api.EffectDraw, api.TargetNone, 7, 0, 0), true}, {of(api.EffectDraw, api.TargetPlayer, 8, 0, 0), false},
		{of(api.EffectGain, api.TargetPlayer, 99, 0, 0), true}, {of(api.EffectGain, api.TargetEither, 9, 0, 0), false},
		{of(api.EffectLose, api.TargetNone, 1, 0, 0), true}, {of(api.EffectLose, api.TargetNone, 0, 0, 0), false},
		{of(api.EffectDestroy, api.TargetOwn, 0, 0, 0), true}, {of(api.EffectDestroy, api.TargetOwn, 1, 0, 0), false}, {of(api.EffectDestroy, api.TargetNone, 0, 0, 0), false},
		{of(api.EffectReturn, api.TargetCreature, 0, 0, 0), true}, {of(api.EffectReturn, api.TargetPlayer, 0, 0, 0), false},
		{of(api.EffectCounter, api.TargetSpell, 0, 0, 0), true}, {of(api.EffectCounter, api.TargetCreature, 0, 0, 0), false}, {of(api.EffectCounter, api.TargetSpell, 0, 0, 1), false},
		{of(api.EffectPump, api.TargetNone, 0, 0, 0), false}, {of(api.EffectPump, api.TargetNone, 1, 0, 0), true}, {of(api.EffectPump, api.TargetOwn, 0, 1, 0), true},
		{of(api.EffectPump, api.TargetOther, 9, 9, 0), true}, {of(api.EffectPump, api.TargetOther, 10, 9, 0), false}, {of(api.EffectPump, api.TargetOther, 9, 10, 0), false},
		{of(api.EffectPump, api.TargetNone, 1, -1, 0), false}, {of(api.EffectPump, api.TargetNone, -1, 1, 0), false}, {of(api.EffectPump, api.TargetPlayer, 1, 1, 0), false},
		{of(api.EffectCounters, api.TargetNone, 9, 0, 0), true}, {of(api.EffectCounters, api.TargetNone, 9, 1, 0), false}, {of(api.EffectCounters, api.TargetOwn, 10, 0, 0), false},
		{of(api.EffectToken, api.TargetNone, 0, 1, 0), true}, {of(api.EffectToken, api.TargetNone, 1, 0, 0), false}, {of(api.EffectToken, api.TargetOwn, 1, 1, 0), false}, {of(api.EffectToken, api.TargetNone, 9, 9, 0), true},
		{of(api.EffectTap, api.TargetOther, 0, 0, 0), true}, {of(api.EffectTap, api.TargetEither, 0, 0, 0), false},
		{of(api.EffectMana, api.TargetNone, 9, 0, api.Stone), true}, {of(api.EffectMana, api.TargetNone, 1, 0, api.Ember), true}, {of(api.EffectMana, api.TargetNone, 1, 0, api.Colours), false},
		{of(api.EffectMana, api.TargetNone, 0, 0, api.Tide), false}, {of(api.EffectMana, api.TargetNone, 10, 0, api.Tide), false}, {of(api.EffectMana, api.TargetPlayer, 1, 0, api.Tide), false},
		{api.Effect{}, false},
	} {
		if got := effect.Valid(c.e); got != c.want {
			t.Errorf("Valid(%v) = %v", c.e, got)
		}
	}
	for _, e := range invalid() {
		if effect.Valid(e) {
			t.Errorf("%v is valid", e)
		}
	}
}

// P6.1: just the effects of the table are valid, whatever the numbers are.
func TestValidEverywhere(t *testing.T) {
	want := texts()
	if len(want) != 1473 {
		t.Errorf("the table has %d effects", len(want))
	}
	check := func(e api.Effect) {
		if _, in := want[e]; effect.Valid(e) != in {
			t.Fatalf("Valid(%v) = %v", e, !in)
		}
	}
	for e := range want {
		check(e)
	}
	around(check)
	small(check)
}

// P6.1: a list is valid up to four effects, all of which are valid.
func TestAll(t *testing.T) {
	good := valid()
	for size := range 12 {
		l := slices.Repeat([]api.Effect{good[size]}, size)
		if got := effect.All(l); got != (size <= effect.MaxEffects) {
			t.Errorf("All of %d effects = %v", size, got)
		}
		for i := range l {
			for _, bad := range invalid() {
				with := slices.Clone(l)
				with[i] = bad
				if effect.All(with) {
					t.Errorf("a list of %d effects with %v as number %d is valid", size, bad, i)
				}
			}
		}
	}
	if !effect.All(nil) || !effect.All([]api.Effect{}) {
		t.Error("a list of no effects is not valid")
	}
	for i, e := range good {
		if l := []api.Effect{e, good[(i+7)%len(good)], good[(i*5)%len(good)], good[len(good)-1-i]}; !effect.All(l) {
			t.Fatalf("%v is not valid", l)
		}
	}
}

// P6.1: what is counted are target kinds, in lists that are valid or not.
func TestTargets(t *testing.T) {
	draw, tap := of(api.EffectDraw, api.TargetNone, 2, 0, 0), of(api.EffectTap, api.TargetOwn, 0, 0, 0)
	for _, c := range []struct {
		l    []api.Effect
		want int
	}{
		{nil, 0}, {[]api.Effect{}, 0}, {[]api.Effect{draw, tap}, 1}, {[]api.Effect{draw, draw, draw}, 0}, {[]api.Effect{tap, draw, tap, tap}, 3},
		{[]api.Effect{{}, {Target: 1}, {Target: 6}}, 2}, {[]api.Effect{{Target: -1}, {Target: 7}, {Target: 99}, {Target: math.MinInt}, {Target: math.MaxInt}, {Target: 1 << 32}}, 6},
		{[]api.Effect{{Code: 7}, {Code: -1, N: 5, M: 5, Colour: 5}}, 0}, {slices.Repeat([]api.Effect{tap, draw}, 500), 500}, {slices.Repeat([]api.Effect{draw}, 500), 0},
	} {
		if got := effect.Targets(c.l); got != c.want {
			t.Errorf("Targets(%v) = %d, want %d", c.l, got, c.want)
		}
	}
	for kind := range api.TargetKind(9) {
		want := 1
		if kind == api.TargetNone {
			want = 0
		}
		if got := effect.Targets([]api.Effect{{Target: kind}}); got != want {
			t.Errorf("Targets of the kind %d = %d", kind, got)
		}
	}
}

// bytesOf returns the bytes of a list that is valid.
func bytesOf(l []api.Effect) []byte {
	out := []byte{byte(len(l))}
	for _, e := range l {
		for _, n := range []int{int(e.Code), int(e.Target), e.N, e.M, int(e.Colour)} {
			out = append(out, byte(n))
		}
	}
	return out
}

// lists calls a check for valid lists of every size, with every valid effect at every place.
func lists(check func(l []api.Effect)) {
	good := valid()
	check(nil)
	check([]api.Effect{})
	for i, e := range good {
		l := []api.Effect{}
		for size := 1; size <= effect.MaxEffects; size++ {
			l = append(l, good[(i+size*size*31)%len(good)])
			for at := range l {
				with := slices.Clone(l)
				with[at] = e
				check(with)
			}
		}
	}
}

// decodes checks what Decode returns for some bytes.
func decodes(t *testing.T, b []byte, l []api.Effect, size int, err api.Errno) {
	t.Helper()
	kept := bytes.Clone(b)
	got, n, e := effect.Decode(b)
	if !slices.Equal(got, l) || n != size || e != err {
		t.Fatalf("Decode(%v) = %v, %d, error %d; want %v, %d, %d", b, got, n, e, l, size, err)
	}
	if !bytes.Equal(b, kept) {
		t.Fatalf("Decode(%v) has changed its argument", kept)
	}
}

// P6.2: the chapter's examples.
func TestBytesExamples(t *testing.T) {
	for _, c := range []struct {
		l    []api.Effect
		want []byte
	}{
		{[]api.Effect{of(api.EffectDamage, api.TargetEither, 3, 0, 0), of(api.EffectMana, api.TargetNone, 2, 0, api.Leaf)}, []byte{2, 1, 5, 3, 0, 0, 12, 0, 2, 0, 2}},
		{nil, []byte{0}}, {[]api.Effect{of(api.EffectCounter, api.TargetSpell, 0, 0, 0)}, []byte{1, 7, 6, 0, 0, 0}},
		{[]api.Effect{of(api.EffectPump, api.TargetOwn, 4, 5, 0)}, []byte{1, 8, 2, 4, 5, 0}}, {[]api.Effect{of(api.EffectLose, api.TargetPlayer, 99, 0, 0)}, []byte{1, 4, 4, 99, 0, 0}},
	} {
		if got, e := effect.Encode(c.l); !bytes.Equal(got, c.want) || e != api.OK {
			t.Errorf("Encode(%v) = %v, error %d; want %v", c.l, got, e, c.want)
		}
		decodes(t, c.want, c.l, len(c.want), api.OK)
	}
	decodes(t, []byte{1, 7, 6, 0, 0, 0, 9}, []api.Effect{of(api.EffectCounter, api.TargetSpell, 0, 0, 0)}, 6, api.OK)
	decodes(t, []byte{1, 7, 6}, nil, 0, api.ErrShort)
	decodes(t, []byte{5}, nil, 0, api.ErrFormat)
	decodes(t, []byte{1, 7, 1, 0, 0, 0}, nil, 0, api.ErrFormat)
}

// P6.2, P6.4: each list has its bytes, and Decode inverts Encode, whatever follows.
func TestEncode(t *testing.T) {
	lists(func(l []api.Effect) {
		kept := slices.Clone(l)
		want := bytesOf(l)
		got, e := effect.Encode(l)
		if !bytes.Equal(got, want) || e != api.OK {
			t.Fatalf("Encode(%v) = %v, error %d; want %v", l, got, e, want)
		}
		if !slices.Equal(l, kept) {
			t.Fatalf("Encode(%v) has changed its argument", kept)
		}
		for _, follows := range [][]byte{nil, {0}, {255}, {1, 7, 6, 0, 0, 0}, bytes.Repeat([]byte{200}, 40), want} {
			decodes(t, slices.Concat(got, follows), l, len(want), api.OK)
		}
	})
}

// P6.2: lists that are not valid have no bytes.
func TestEncodeNot(t *testing.T) {
	refused := func(l []api.Effect) {
		if got, e := effect.Encode(l); len(got) != 0 || e != api.ErrArg {
			t.Errorf("Encode(%v) = %v, error %d; want ErrArg", l, got, e)
		}
	}
	good := valid()
	for _, size := range []int{5, 6, 255, 256, 257, 260} {
		refused(slices.Repeat(good[:1], size))
	}
	for _, bad := range invalid() {
		for size := range effect.MaxEffects {
			for at := range size + 1 {
				refused(slices.Insert(slices.Clone(good[:size]), at, bad))
			}
		}
	}
}

// P6.2: bytes that are too few for as many effects as the first one says are short, even where an effect is not valid.
func TestDecodeShort(t *testing.T) {
	decodes(t, nil, nil, 0, api.ErrShort)
	decodes(t, []byte{}, nil, 0, api.ErrShort)
	lists(func(l []api.Effect) {
		b := bytesOf(l)
		for size := range b {
			decodes(t, b[:size], nil, 0, api.ErrShort)
		}
	})
	for many := 1; many <= effect.MaxEffects; many++ {
		for size := range many * effect.Size {
			decodes(t, append([]byte{byte(many)}, bytes.Repeat([]byte{255}, size)...), nil, 0, api.ErrShort)
			decodes(t, append([]byte{byte(many)}, make([]byte, size)...), nil, 0, api.ErrShort)
		}
	}
}

// P6.2: too many effects come before too few bytes; and effects that are not valid are no format at any place.
func TestDecodeFormat(t *testing.T) {
	good := bytesOf([]api.Effect{of(api.EffectCounter, api.TargetSpell, 0, 0, 0)})[1:]
	for many := effect.MaxEffects + 1; many <= 255; many++ {
		for _, effects := range []int{0, 1, many - 1, many, many + 1} {
			b := append([]byte{byte(many)}, bytes.Repeat(good, effects)...)
			decodes(t, b, nil, 0, api.ErrFormat)
			decodes(t, append(b, 7), nil, 0, api.ErrFormat)
		}
	}
	for many := 1; many <= effect.MaxEffects; many++ {
		for at := range many {
			for _, bad := range [][]byte{{0, 0, 0, 0, 0}, {1, 5, 0, 0, 0}, {1, 5, 100, 0, 0}, {200, 0, 0, 0, 0}, {7, 255, 0, 0, 0}, {12, 0, 1, 0, 255}, {5, 1, 0, 1, 0}} {
				b := append([]byte{byte(many)}, bytes.Repeat(good, many)...)
				copy(b[1+at*effect.Size:], bad)
				decodes(t, b, nil, 0, api.ErrFormat)
				decodes(t, append(b, 0), nil, 0, api.ErrFormat)
			}
		}
	}
}

// P6.2, P6.4: of all bytes just those of valid effects are decoded, and these are just the bytes that were there.
func TestDecodeEverywhere(t *testing.T) {
	want := texts()
	found := 0
	check := func(b []byte) {
		e := of(api.EffectCode(b[1]), api.TargetKind(b[2]), int(b[3]), int(b[4]), api.Colour(b[5]))
		if _, in := want[e]; !in {
			decodes(t, b, nil, 0, api.ErrFormat)
			return
		}
		found++
		decodes(t, b, []api.Effect{e}, 6, api.OK)
		if again, err := effect.Encode([]api.Effect{e}); !bytes.Equal(again, b) || err != api.OK {
			t.Fatalf("Encode(%v) = %v, error %d; want %v", e, again, err, b)
		}
	}
	for first := range 256 {
		for second := range 256 {
			check([]byte{1, byte(first), byte(second), 1, 0, 0})
			check([]byte{1, byte(first), byte(second), 0, 0, 0})
			check([]byte{1, 8, 2, byte(first), byte(second), 0})
			check([]byte{1, 10, 0, byte(first), byte(second), 0})
			check([]byte{1, 12, 0, byte(first), 0, byte(second)})
			check([]byte{1, 1, 5, byte(first), byte(second), 0})
		}
	}
	if found == 0 {
		t.Error("nothing was decoded")
	}
}

// P6.3, P6.4: each valid effect has the text that the chapter says, and Parse inverts Text.
func TestTexts(t *testing.T) {
	for want, e := range map[string]api.Effect{
		"damage 3 either": of(api.EffectDamage, api.TargetEither, 3, 0, 0), "pump 1 2 own": of(api.EffectPump, api.TargetOwn, 1, 2, 0), "draw 2": of(api.EffectDraw, api.TargetNone, 2, 0, 0),
		"mana 2 L": of(api.EffectMana, api.TargetNone, 2, 0, api.Leaf), "counter spell": of(api.EffectCounter, api.TargetSpell, 0, 0, 0), "lose 10 player": of(api.EffectLose, api.TargetPlayer, 10, 0, 0),
		"token 0 1": of(api.EffectToken, api.TargetNone, 0, 1, 0), "pump 0 9": of(api.EffectPump, api.TargetNone, 0, 9, 0), "counters 1 creature": of(api.EffectCounters, api.TargetCreature, 1, 0, 0),
		"tap other": of(api.EffectTap, api.TargetOther, 0, 0, 0), "return own": of(api.EffectReturn, api.TargetOwn, 0, 0, 0), "destroy creature": of(api.EffectDestroy, api.TargetCreature, 0, 0, 0), "gain 99": of(api.EffectGain, api.TargetNone, 99, 0, 0),
	} {
		if texts()[e] != want {
			t.Errorf("the text of %v is %q", e, texts()[e])
		}
	}
	seen := map[string]bool{}
	for e, want := range texts() {
		if seen[want] {
			t.Errorf("%q is the text of several effects", want)
		}
		seen[want] = true
		if got, err := effect.Text(e); got != want || err != api.OK {
			t.Errorf("Text(%v) = %q, error %d; want %q", e, got, err, want)
		}
		if got, err := effect.Parse(want); got != e || err != api.OK {
			t.Errorf("Parse(%q) = %v, error %d; want %v", want, got, err, e)
		}
	}
}

// P6.3: effects that are not valid have no text.
func TestTextNot(t *testing.T) {
	want := texts()
	check := func(e api.Effect) {
		if _, in := want[e]; in {
			return
		}
		if got, err := effect.Text(e); got != "" || err != api.ErrArg {
			t.Fatalf("Text(%v) = %q, error %d; want ErrArg", e, got, err)
		}
	}
	for _, e := range invalid() {
		check(e)
	}
	around(check)
	small(check)
}

// parses checks that a string is parsed just if it is a text, and as the effect with this text.
func parses(t *testing.T, effects map[string]api.Effect, s string) {
	t.Helper()
	e, in := effects[s]
	want := api.ErrFormat
	if in {
		want = api.OK
	}
	if got, err := effect.Parse(s); got != e || err != want {
		t.Fatalf("Parse(%q) = %v, error %d; want %v, %d", s, got, err, e, want)
	}
}

// byText returns all valid effects by their texts.
func byText() map[string]api.Effect {
	out := map[string]api.Effect{}
	for e, text := range texts() {
		out[text] = e
	}
	return out
}

// P6.3: what is not the text of a valid effect.
func TestParseNot(t *testing.T) {
	for _, s := range []string{
		"", " ", "damage", "damage ", "damage 3", "damage 3 ", "damage 03 either", "damage 003 either", "damage 0 either", "damage 100 either", "damage 3 spell", "damage 3  either", "damage  3 either", " damage 3 either", "damage 3 either ", "damage either 3", "damage either",
		"damage 3 either either", "damage 3 0 either", "damage 3 E", "damage +3 either", "damage -3 either", "damage 3.0 either", "damage 0x3 either", "damage 1_0 either", "damage 1e1 either", "damage\t3 either", "damage 3\teither", "damage 3 either\n", "\ufeffdamage 3 either", "damage 3\u00a0either", "damage \u0663 either", "damage 3 either\x00",
		"Damage 3 either", "DAMAGE 3 EITHER", "damages 3 either", "damag 3 either", "damage 3 eithe", "damage 3 none", "damage 3 nobody", "draw 2 ", "draw 02", "draw 8", "draw 0", "draw", "draw 2 own", "draw 2 0", "draw two", "draw 2player",
		"destroy", "destroy ", "destroy 0 own", "destroy 1 own", "destroy own own", "destroy own 0", "destroyown", "return player", "counter", "counter own", "counter spell spell", "counter 0 spell",
		"pump 0 0", "pump 1", "pump 1 2 player", "pump 1 2 3", "pump 1  2", "pump 01 2", "pump 1 02", "pump 10 0", "pump 1 -1", "pump 1 own", "pump own 1 2", "counters 0", "counters 10", "counters", "counters 1 player", "counters spell", "counter 1", "token 1 0", "token 1", "token 1 1 own", "token 1 1 0", "token -1 1", "token - 1", "token x 1", "token  1",
		"tap", "tap 1 own", "tap player", "mana 2", "mana 2 ", "mana 2 X", "mana 2 l", "mana 2 LL", "mana 2 EL", "mana 2 ET", "mana 2 TL", "mana 2 ETLS", "mana 2 0", "mana 2 2", "mana L 2", "mana 0 L", "mana 10 L", "mana 2 L own", "mana 2 L ", "mana 2 0 L", "mana 02 E", "mana 2  E", "mana  E",
		"damage 18446744073709551619 either", "damage 9223372036854775807 either", "damage 9223372036854775808 either", "damage 4294967299 either", "damage 259 either", "damage -9223372036854775808 either",
		"either", "3", "3 either", "0", "1 5 3 0 0", "\x01\x05\x03\x00\x00", "\xff", "damage 3 either\xff",
		strings.Repeat(" ", 1000), strings.Repeat("damage ", 1000), "damage " + strings.Repeat("0", 1000) + "3 either", "damage " + strings.Repeat("9", 5000) + " either", "draw 2" + strings.Repeat(" ", 1000), "damage 3 either" + strings.Repeat(" either", 1000),
	} {
		if got, e := effect.Parse(s); got != (api.Effect{}) || e != api.ErrFormat {
			t.Errorf("Parse(%q) = %v, error %d; want ErrFormat", s, got, e)
		}
	}
}

// P6.3, P6.4: of all strings of up to four words just the texts are parsed, as Text inverts Parse.
func TestParseWords(t *testing.T) {
	effects := byText()
	words := []string{
		"damage", "draw", "gain", "lose", "destroy", "return", "counter", "pump", "counters", "token", "tap", "mana",
		"creature", "own", "other", "player", "either", "spell", "0", "1", "7", "8", "9", "10", "99", "100", "01", "E", "S", "ET", "",
	}
	found := 0
	var from func(l []string)
	from = func(l []string) {
		s := strings.Join(l, " ")
		parses(t, effects, s)
		if _, in := effects[s]; in {
			found++
		}
		// Words behind one that begins no text are not looked at further than the next one.
		if len(l) == 4 || len(l) == 2 && !slices.Contains(words[:12], l[0]) {
			return
		}
		for _, word := range words {
			from(append(slices.Clone(l), word))
		}
	}
	from(nil)
	if found < 200 {
		t.Errorf("%d texts were found", found)
	}
}

// P6.3, P6.4: a text in which one byte is another one, more or less is the text of another effect, or none.
func TestParseChangedTexts(t *testing.T) {
	effects := byText()
	for _, text := range []string{"damage 3 either", "draw 2", "gain 99", "lose 1 player", "destroy own", "return other", "counter spell", "pump 1 2 own", "pump 0 1", "counters 9", "token 0 3", "tap creature", "mana 2 L"} {
		for i := range len(text) + 1 {
			for b := range 256 {
				parses(t, effects, text[:i]+string([]byte{byte(b)})+text[i:])
				if i < len(text) {
					parses(t, effects, text[:i]+string([]byte{byte(b)})+text[i+1:])
				}
			}
			if i < len(text) {
				parses(t, effects, text[:i]+text[i+1:])
			}
		}
	}
}

// P6.4: the numbers of valid effects are from 0 to 99, so that each of them is a byte.
func TestNumbers(t *testing.T) {
	check := func(e api.Effect) {
		if !effect.Valid(e) {
			return
		}
		for _, n := range []int{int(e.Code), int(e.Target), e.N, e.M, int(e.Colour)} {
			if n < 0 || n > 99 {
				t.Fatalf("%v is valid", e)
			}
		}
	}
	around(check)
	small(check)
}

// P6.2: results share no memory with each other.
func TestSharing(t *testing.T) {
	l := []api.Effect{of(api.EffectDamage, api.TargetEither, 3, 0, 0)}
	first, _ := effect.Encode(l)
	second, _ := effect.Encode(l)
	clear(first)
	if !bytes.Equal(second, bytesOf(l)) {
		t.Errorf("the bytes have become %v", second)
	}
	once, _, _ := effect.Decode(second)
	again, _, _ := effect.Decode(second)
	clear(once)
	if !slices.Equal(again, l) {
		t.Errorf("the list has become %v", again)
	}
}
