package mana_test

import (
	"math"
	"slices"
	"strconv"
	"strings"
	"testing"

	"zeitnot/api"
	"zeitnot/mana"
)

// of returns a cost: of any colours, and of each colour.
func of(free, e, t, l, s int) api.Cost {
	return api.Cost{Of: api.Mana{e, t, l, s}, Any: free}
}

// all returns every mana whose numbers are some of those that are given.
func all(numbers ...int) []api.Mana {
	out := []api.Mana{}
	for _, e := range numbers {
		for _, t := range numbers {
			for _, l := range numbers {
				for _, s := range numbers {
					out = append(out, api.Mana{e, t, l, s})
				}
			}
		}
	}
	return out
}

// costs returns every cost with some mana and some numbers of any colours.
func costs(ofs []api.Mana, free ...int) []api.Cost {
	out := []api.Cost{}
	for _, m := range ofs {
		for _, n := range free {
			out = append(out, api.Cost{Of: m, Any: n})
		}
	}
	return out
}

// upTo returns the numbers from 0 to a last one.
func upTo(last int) []int {
	out := []int{}
	for n := range last + 1 {
		out = append(out, n)
	}
	return out
}

// below are numbers that are neither one of a pool nor one of a cost, nor a number of mana that is added.
var below = []int{-1, -2, -99, -1 << 32, math.MinInt + 1, math.MinInt}

// noPools are mana with one number that a pool does not have, at each of the colours.
func noPools() []api.Mana {
	out := []api.Mana{}
	for _, n := range append([]int{100, 101, 1 << 32, math.MaxInt - 1, math.MaxInt}, below...) {
		for colour := range api.Colours {
			m := api.Mana{7, 7, 7, 7}
			m[colour] = n
			out = append(out, m)
		}
	}
	return out
}

// noCosts are costs with one number that is not allowed, at each of the places.
func noCosts() []api.Cost {
	out := []api.Cost{}
	for _, n := range append([]int{21, 22, 99, 100, 1 << 32, math.MaxInt - 1, math.MaxInt}, below...) {
		for colour := range api.Colours {
			c := of(2, 1, 1, 1, 1)
			c.Of[colour] = n
			out = append(out, c)
		}
		out = append(out, of(n, 1, 1, 1, 1), of(n, 0, 0, 0, 0))
	}
	return out
}

var noColours = []api.Colour{-1, -2, 4, 5, 99, 1 << 32, math.MinInt, math.MaxInt}

// together returns all mana of a pool, whatever its numbers are.
func together(m api.Mana) int { return m[0] + m[1] + m[2] + m[3] }

// paid returns what is left after a payment that is possible: the mana of any colours is that
// which is highest, if each colour is a pile and the lower colour is the first one of a row.
func paid(m api.Mana, c api.Cost) api.Mana {
	for colour := range m {
		m[colour] -= c.Of[colour]
	}
	taken, free := api.Mana{}, c.Any
	for row := slices.Max(m[:]); row > 0; row-- {
		for colour, pile := range m {
			if pile >= row && free > 0 {
				taken[colour]++
				free--
			}
		}
	}
	for colour := range m {
		m[colour] -= taken[colour]
	}
	return m
}

// lacking returns what a pool is missing, found by taking away one after the other.
func lacking(m api.Mana, c api.Cost) api.Cost {
	for colour := range m {
		for m[colour] > 0 && c.Of[colour] > 0 {
			m[colour]--
			c.Of[colour]--
		}
	}
	for left := together(m); left > 0 && c.Any > 0; left-- {
		c.Any--
	}
	return c
}

// payments calls a check for pools and costs that are small, and for those with numbers around the limits.
func payments(check func(m api.Mana, c api.Cost)) {
	small := costs(all(0, 1, 2), upTo(8)...)
	for _, m := range all(0, 1, 2, 3) {
		for _, c := range small {
			check(m, c)
		}
	}
	great := costs(all(0, 1, 20), 0, 1, 7, 20)
	for _, m := range all(0, 1, 19, 20, 99) {
		for _, c := range great {
			check(m, c)
		}
	}
}

// P5.1: each number of a pool is from 0 to 99, and each one of a cost from 0 to 20.
func TestValid(t *testing.T) {
	if mana.MaxCost != 20 {
		t.Errorf("MaxCost = %d", mana.MaxCost)
	}
	for _, m := range all(0, 1, 50, 98, 99) {
		if !mana.Valid(m) {
			t.Errorf("%v is no pool", m)
		}
	}
	for _, m := range noPools() {
		if mana.Valid(m) {
			t.Errorf("%v is a pool", m)
		}
	}
	for _, c := range costs(all(0, 1, 19, 20), 0, 1, 19, 20) {
		if !mana.ValidCost(c) {
			t.Errorf("%v is no cost", c)
		}
	}
	for _, c := range noCosts() {
		if mana.ValidCost(c) {
			t.Errorf("%v is a cost", c)
		}
	}
}

// P5.1: the sums, which are 0 for what is no pool or no cost.
func TestTotalAndValue(t *testing.T) {
	for _, c := range []struct {
		m    api.Mana
		want int
	}{{api.Mana{3, 0, 2, 1}, 6}, {api.Mana{}, 0}, {api.Mana{99, 99, 99, 99}, 396}, {api.Mana{0, 0, 0, 99}, 99}, {api.Mana{100, 0, 0, 0}, 0}, {api.Mana{9, 9, 9, -1}, 0}} {
		if got := mana.Total(c.m); got != c.want {
			t.Errorf("Total(%v) = %d, want %d", c.m, got, c.want)
		}
	}
	for _, c := range []struct {
		c    api.Cost
		want int
	}{{of(3, 1, 1, 0, 0), 5}, {of(0, 0, 0, 0, 0), 0}, {of(20, 20, 20, 20, 20), 100}, {of(20, 0, 0, 0, 0), 20}, {of(0, 0, 0, 0, 20), 20}, {of(21, 1, 0, 0, 0), 0}, {of(3, 0, 0, -1, 5), 0}} {
		if got := mana.Value(c.c); got != c.want {
			t.Errorf("Value(%v) = %d, want %d", c.c, got, c.want)
		}
	}
	for _, m := range all(0, 1, 50, 99) {
		if got := mana.Total(m); got != together(m) {
			t.Errorf("Total(%v) = %d", m, got)
		}
	}
	for _, c := range costs(all(0, 1, 9, 20), 0, 1, 9, 20) {
		if got := mana.Value(c); got != together(c.Of)+c.Any {
			t.Errorf("Value(%v) = %d", c, got)
		}
	}
	for _, m := range noPools() {
		if got := mana.Total(m); got != 0 {
			t.Errorf("Total(%v) = %d, want 0", m, got)
		}
	}
	for _, c := range noCosts() {
		if got := mana.Value(c); got != 0 {
			t.Errorf("Value(%v) = %d, want 0", c, got)
		}
	}
}

// P5.2: mana is added to one colour, up to 99 of it, and nothing wraps.
func TestAdd(t *testing.T) {
	for _, c := range []struct {
		m      api.Mana
		colour api.Colour
		n      int
		want   api.Mana
	}{
		{api.Mana{3, 0, 2, 98}, api.Stone, 5, api.Mana{3, 0, 2, 99}}, {api.Mana{3, 0, 2, 98}, api.Stone, 1, api.Mana{3, 0, 2, 99}},
		{api.Mana{3, 0, 2, 98}, api.Stone, 0, api.Mana{3, 0, 2, 98}}, {api.Mana{3, 0, 2, 99}, api.Stone, 1, api.Mana{3, 0, 2, 99}},
		{api.Mana{}, api.Ember, 2, api.Mana{2}}, {api.Mana{1, 1, 1, 1}, api.Tide, 3, api.Mana{1, 4, 1, 1}},
		{api.Mana{}, api.Leaf, 99, api.Mana{0, 0, 99, 0}}, {api.Mana{}, api.Leaf, 100, api.Mana{0, 0, 99, 0}},
		{api.Mana{9, 9, 9, 9}, api.Leaf, math.MaxInt, api.Mana{9, 9, 99, 9}}, {api.Mana{99, 99, 99, 99}, api.Ember, math.MaxInt, api.Mana{99, 99, 99, 99}},
	} {
		if got, e := mana.Add(c.m, c.colour, c.n); got != c.want || e != api.OK {
			t.Errorf("Add(%v, %d, %d) = %v, error %d; want %v", c.m, c.colour, c.n, got, e, c.want)
		}
	}
	for _, m := range all(0, 1, 98, 99) {
		for colour := range api.Colour(api.Colours) {
			for _, n := range []int{0, 1, 2, 97, 98, 99, 100, math.MaxInt - 99, math.MaxInt} {
				want := m
				want[colour] = min(99, m[colour]+min(99, n))
				if got, e := mana.Add(m, colour, n); got != want || e != api.OK {
					t.Fatalf("Add(%v, %d, %d) = %v, error %d; want %v", m, colour, n, got, e, want)
				}
			}
		}
	}
}

// P5.2: a colour that there is not, less than nothing, or what is no pool.
func TestAddNot(t *testing.T) {
	refused := func(m api.Mana, c api.Colour, n int) {
		if got, e := mana.Add(m, c, n); got != (api.Mana{}) || e != api.ErrArg {
			t.Errorf("Add(%v, %d, %d) = %v, error %d; want ErrArg", m, c, n, got, e)
		}
	}
	for _, colour := range noColours {
		for _, n := range []int{-1, 0, 1, 99} {
			refused(api.Mana{3, 0, 2, 1}, colour, n)
		}
	}
	for colour := range api.Colour(api.Colours) {
		for _, n := range below {
			refused(api.Mana{3, 0, 2, 1}, colour, n)
			refused(api.Mana{99, 99, 99, 99}, colour, n)
		}
		for _, m := range noPools() {
			refused(m, colour, 0)
			refused(m, colour, 1)
		}
	}
}

// P5.3: the payments of the chapter's examples, and those that are next to them.
func TestPayments(t *testing.T) {
	nothing := api.Cost{}
	for _, c := range []struct {
		m       api.Mana
		c       api.Cost
		left    api.Mana
		missing api.Cost
	}{
		{api.Mana{3, 2, 2, 0}, of(3, 1, 0, 0, 0), api.Mana{1, 1, 1, 0}, nothing},
		{api.Mana{5, 1, 0, 0}, of(3, 0, 0, 0, 0), api.Mana{2, 1, 0, 0}, nothing},
		{api.Mana{1, 1, 1, 1}, of(2, 0, 0, 0, 0), api.Mana{0, 0, 1, 1}, nothing},
		{api.Mana{0, 2, 0, 2}, of(1, 0, 0, 0, 0), api.Mana{0, 1, 0, 2}, nothing},
		{api.Mana{0, 2, 0, 2}, of(2, 0, 0, 0, 0), api.Mana{0, 1, 0, 1}, nothing},
		{api.Mana{1, 2, 3, 4}, of(4, 0, 0, 0, 0), api.Mana{1, 1, 2, 2}, nothing},
		// The numbers of the colours come first: without them another colour is the one with most left.
		{api.Mana{4, 3, 0, 0}, of(1, 2, 0, 0, 0), api.Mana{2, 2, 0, 0}, nothing},
		{api.Mana{}, nothing, api.Mana{}, nothing},
		{api.Mana{9, 0, 9, 0}, nothing, api.Mana{9, 0, 9, 0}, nothing},
		{api.Mana{99, 99, 99, 99}, of(20, 20, 20, 20, 20), api.Mana{74, 74, 74, 74}, nothing},
		{api.Mana{20, 20, 20, 20}, of(0, 20, 20, 20, 20), api.Mana{}, nothing},
		{api.Mana{20, 20, 20, 20}, of(1, 20, 20, 20, 20), api.Mana{}, of(1, 0, 0, 0, 0)},
		{api.Mana{2, 0, 0, 0}, of(0, 0, 1, 0, 0), api.Mana{}, of(0, 0, 1, 0, 0)},
		{api.Mana{2, 0, 0, 0}, of(4, 0, 1, 0, 0), api.Mana{}, of(2, 0, 1, 0, 0)},
		{api.Mana{2, 1, 0, 0}, of(3, 0, 0, 0, 0), api.Mana{}, nothing},
		{api.Mana{2, 1, 0, 0}, of(4, 0, 0, 0, 0), api.Mana{}, of(1, 0, 0, 0, 0)},
		{api.Mana{1, 1, 0, 0}, of(1, 1, 1, 0, 0), api.Mana{}, of(1, 0, 0, 0, 0)},
		{api.Mana{}, of(20, 20, 20, 20, 20), api.Mana{}, of(20, 20, 20, 20, 20)},
		{api.Mana{99, 99, 99, 0}, of(20, 20, 20, 20, 20), api.Mana{}, of(0, 0, 0, 0, 20)},
	} {
		left, e := mana.Pay(c.m, c.c)
		err := api.OK
		if c.missing != nothing {
			err = api.ErrCost
		}
		if left != c.left || e != err {
			t.Errorf("Pay(%v, %v) = %v, error %d; want %v, %d", c.m, c.c, left, e, c.left, err)
		}
		if got := mana.Missing(c.m, c.c); got != c.missing {
			t.Errorf("Missing(%v, %v) = %v, want %v", c.m, c.c, got, c.missing)
		}
		if got := mana.Can(c.m, c.c); got != (err == api.OK) {
			t.Errorf("Can(%v, %v) = %v", c.m, c.c, got)
		}
	}
}

// P5.3: many pools and costs, against mana in piles and mana that is taken away one after the other.
func TestAllPayments(t *testing.T) {
	can, cannot := 0, 0
	payments(func(m api.Mana, c api.Cost) {
		missing := lacking(m, c)
		if got := mana.Missing(m, c); got != missing {
			t.Fatalf("Missing(%v, %v) = %v, want %v", m, c, got, missing)
		}
		possible := missing == api.Cost{}
		if got := mana.Can(m, c); got != possible {
			t.Fatalf("Can(%v, %v) = %v", m, c, got)
		}
		want, err := api.Mana{}, api.ErrCost
		if possible {
			want, err = paid(m, c), api.OK
			can++
		} else {
			cannot++
		}
		if got, e := mana.Pay(m, c); got != want || e != err {
			t.Fatalf("Pay(%v, %v) = %v, error %d; want %v, %d", m, c, got, e, want, err)
		}
	})
	if can == 0 || cannot == 0 {
		t.Errorf("%d payments were possible, %d were not", can, cannot)
	}
}

// P5.3: what is no pool or no cost, where ErrArg comes before ErrCost.
func TestPaymentsNot(t *testing.T) {
	refused := func(m api.Mana, c api.Cost) {
		if got, e := mana.Pay(m, c); got != (api.Mana{}) || e != api.ErrArg {
			t.Errorf("Pay(%v, %v) = %v, error %d; want ErrArg", m, c, got, e)
		}
		if mana.Can(m, c) {
			t.Errorf("Can(%v, %v) = true", m, c)
		}
		if got := mana.Missing(m, c); got != (api.Cost{}) {
			t.Errorf("Missing(%v, %v) = %v, want nothing", m, c, got)
		}
	}
	for _, m := range noPools() {
		for _, c := range []api.Cost{{}, of(1, 1, 1, 1, 1), of(20, 20, 20, 20, 20)} {
			refused(m, c)
		}
		for _, c := range noCosts() {
			refused(m, c)
		}
	}
	for _, c := range noCosts() {
		for _, m := range []api.Mana{{}, {1, 1, 1, 1}, {99, 99, 99, 99}} {
			refused(m, c)
		}
	}
}

// P5.4: the letters, and no others.
func TestLetter(t *testing.T) {
	for c, want := range map[api.Colour]string{api.Ember: "E", api.Tide: "T", api.Leaf: "L", api.Stone: "S"} {
		if got, e := mana.Letter(c); got != want || e != api.OK {
			t.Errorf("Letter(%d) = %q, error %d; want %q", c, got, e, want)
		}
	}
	for _, c := range noColours {
		if got, e := mana.Letter(c); got != "" || e != api.ErrArg {
			t.Errorf("Letter(%d) = %q, error %d; want ErrArg", c, got, e)
		}
	}
}

// written returns the text of a cost, put together by hand.
func written(c api.Cost) string {
	coloured := strings.Repeat("E", c.Of[0]) + strings.Repeat("T", c.Of[1]) + strings.Repeat("L", c.Of[2]) + strings.Repeat("S", c.Of[3])
	if c.Any == 0 && coloured != "" {
		return coloured
	}
	return strconv.Itoa(c.Any) + coloured
}

// P5.4, P5.5: every cost has the text that the chapter says, and Parse inverts Text.
func TestTexts(t *testing.T) {
	for want, c := range map[string]api.Cost{
		"3EEL": of(3, 2, 0, 1, 0), "0": of(0, 0, 0, 0, 0), "S": of(0, 0, 0, 0, 1), "12TT": of(12, 0, 2, 0, 0),
		"10": of(10, 0, 0, 0, 0), "20": of(20, 0, 0, 0, 0), "1ETLS": of(1, 1, 1, 1, 1), "EES": of(0, 2, 0, 0, 1), "TL": of(0, 0, 1, 1, 0),
	} {
		if got, e := mana.Text(c); got != want || e != api.OK {
			t.Errorf("Text(%v) = %q, error %d; want %q", c, got, e, want)
		}
		if got, e := mana.Parse(want); got != c || e != api.OK {
			t.Errorf("Parse(%q) = %v, error %d; want %v", want, got, e, c)
		}
	}
	for _, c := range costs(all(0, 1, 2, 10, 20), upTo(20)...) {
		want := written(c)
		if got, e := mana.Text(c); got != want || e != api.OK {
			t.Fatalf("Text(%v) = %q, error %d; want %q", c, got, e, want)
		}
		if got, e := mana.Parse(want); got != c || e != api.OK {
			t.Fatalf("Parse(%q) = %v, error %d; want %v", want, got, e, c)
		}
	}
	for _, c := range noCosts() {
		if got, e := mana.Text(c); got != "" || e != api.ErrArg {
			t.Errorf("Text(%v) = %q, error %d; want ErrArg", c, got, e)
		}
	}
}

// malformed checks that a string is not the text of a cost.
func malformed(t *testing.T, s string) {
	t.Helper()
	if got, e := mana.Parse(s); got != (api.Cost{}) || e != api.ErrFormat {
		t.Errorf("Parse(%q) = %v, error %d; want ErrFormat", s, got, e)
	}
}

// P5.4: what is not the text of a cost.
func TestParseNot(t *testing.T) {
	for _, s := range []string{
		"", "0E", "00", "01", "01E", "001", "21", "21E", "99", "100", "TE", "ST", "LT", "ETE", "EETE", "E1", "1E1", "E0", "0E0", "e", "t", "l", "s",
		" ", " 1", "1 ", "1 E", "E ", "\t1", "1\n", "3EELX", "X", "x3", "-1", "-0", "+1", "+0", "1.0", "1e1", "0x1", "1_0", "0b1", "1,E", "{1}",
		"\x00", "1\x00", "E\x00", "\xff", "\u0661", "\uff11", "\u00c9", "\ufeff1", "1\u200b",
		"18446744073709551616", "18446744073709551617E", "9223372036854775807", "9223372036854775808", "4294967296", "256",
		strings.Repeat("1", 101), strings.Repeat("0", 101), strings.Repeat("9", 5000) + "E",
		strings.Repeat("0", 70) + "1", strings.Repeat("E", 257), "1" + strings.Repeat("E", 300) + "T",
	} {
		malformed(t, s)
	}
	for _, letter := range []string{"E", "T", "L", "S"} {
		for _, many := range []int{21, 22, 256, 276, 5000} {
			malformed(t, strings.Repeat(letter, many))
			malformed(t, "20"+strings.Repeat(letter, many))
		}
	}
}

// P5.4, P5.5: of all short strings with some bytes just the texts of costs are parsed.
func TestParseShortStrings(t *testing.T) {
	texts := map[string]api.Cost{}
	for _, c := range costs(all(upTo(5)...), upTo(20)...) {
		texts[written(c)] = c
	}
	found := 0
	var from func(s string)
	from = func(s string) {
		if c, in := texts[s]; !in {
			malformed(t, s)
		} else if got, e := mana.Parse(s); got != c || e != api.OK {
			t.Errorf("Parse(%q) = %v, error %d; want %v", s, got, e, c)
		} else {
			found++
		}
		if len(s) == 5 || t.Failed() {
			return
		}
		for _, b := range []byte("0129ETLSe ") {
			from(s + string(b))
		}
	}
	from("")
	if found == 0 {
		t.Error("no text was found")
	}
}

// P5.4, P5.5: a text in which one byte is another one, more or less is the text of another cost, or none.
func TestParseChangedTexts(t *testing.T) {
	for _, c := range []api.Cost{of(0, 0, 0, 0, 0), of(3, 2, 0, 1, 0), of(20, 20, 20, 20, 20), of(0, 20, 0, 1, 19), of(12, 0, 2, 0, 0)} {
		text := written(c)
		for i := range len(text) + 1 {
			changed := []string{}
			for b := range 256 {
				changed = append(changed, text[:i]+string([]byte{byte(b)})+text[i:])
				if i < len(text) {
					changed = append(changed, text[:i]+string([]byte{byte(b)})+text[i+1:])
				}
			}
			if i < len(text) {
				changed = append(changed, text[:i]+text[i+1:])
			}
			for _, s := range changed {
				got, e := mana.Parse(s)
				if e == api.OK && (!mana.ValidCost(got) || written(got) != s) || e != api.OK && (e != api.ErrFormat || got != api.Cost{}) {
					t.Fatalf("Parse(%q) = %v, error %d", s, got, e)
				}
			}
		}
	}
}

// P5.5: a cost is paid by as much mana as its value says, and by at least the numbers of its colours.
func TestPaidIsValue(t *testing.T) {
	payments(func(m api.Mana, c api.Cost) {
		left, e := mana.Pay(m, c)
		if e != api.OK {
			return
		}
		if !mana.Valid(left) || mana.Total(m)-mana.Total(left) != mana.Value(c) {
			t.Fatalf("Pay(%v, %v) = %v", m, c, left)
		}
		for colour := range m {
			if m[colour]-left[colour] < c.Of[colour] {
				t.Fatalf("Pay(%v, %v) = %v", m, c, left)
			}
		}
	})
}

// added returns a pool with what is missing: that of any colours goes to one of them. It says also whether nothing is above 99.
func added(t *testing.T, m api.Mana, missing api.Cost, colour api.Colour) (api.Mana, bool) {
	t.Helper()
	missing.Of[colour] += missing.Any
	fits := true
	for c, n := range missing.Of {
		fits = fits && m[c]+n <= api.MaxMana
		full, e := mana.Add(m, api.Colour(c), n)
		if e != api.OK {
			t.Fatalf("Add(%v, %d, %d): error %d", m, c, n, e)
		}
		m = full
	}
	return m, fits
}

// lessThan returns the costs that have one less than a cost, at one of the places.
func lessThan(c api.Cost) []api.Cost {
	out := []api.Cost{}
	for colour, n := range c.Of {
		if n > 0 {
			less := c
			less.Of[colour]--
			out = append(out, less)
		}
	}
	if c.Any > 0 {
		less := c
		less.Any--
		out = append(out, less)
	}
	return out
}

// P5.5: a pool with what it is missing can pay; with any less of it, it cannot.
func TestMissingIsEnough(t *testing.T) {
	tried := 0
	payments(func(m api.Mana, c api.Cost) {
		missing := mana.Missing(m, c)
		if !mana.ValidCost(missing) {
			t.Fatalf("Missing(%v, %v) = %v", m, c, missing)
		}
		for colour := range api.Colour(api.Colours) {
			full, fits := added(t, m, missing, colour)
			if !fits {
				continue
			}
			tried++
			if !mana.Can(full, c) {
				t.Fatalf("%v with %v, as %d, cannot pay %v", m, missing, colour, c)
			}
			for _, less := range lessThan(missing) {
				if full, _ := added(t, m, less, colour); mana.Can(full, c) {
					t.Fatalf("%v with %v, as %d, can pay %v", m, less, colour, c)
				}
			}
		}
	})
	if tried == 0 {
		t.Error("no pool was given what it is missing")
	}
}
