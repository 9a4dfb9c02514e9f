package deck_test

import (
	"math/rand/v2"
	"regexp"
	"slices"
	"strconv"
	"strings"
	"testing"

	"zeitnot/api"
	"zeitnot/deck"
	"zeitnot/pool"
)

// form is what a line is like, without its line feed.
var form = regexp.MustCompile(`^([1-9]|[1-5][0-9]|60) ([^\n]+)$`)

// parses checks what Parse returns for a string.
func parses(t *testing.T, p *pool.Pool, s string, want []api.Copies, number int, err api.Errno) {
	t.Helper()
	l, line, e := deck.Parse(p, s)
	if !slices.Equal(l, want) || line != number || e != err {
		t.Fatalf("Parse(%q): %d, line %d, error %d; want %d, %d, %d", s, l, line, e, want, number, err)
	}
}

// read returns what Parse is to return for a string, by a second reading of it.
func read(p *pool.Pool, s string) ([]api.Copies, int, api.Errno) {
	counts := make([]int, p.Len())
	lines := strings.Split(s, "\n")
	for i, line := range lines[:len(lines)-1] {
		parts := form.FindStringSubmatch(line)
		if parts == nil {
			return nil, i + 1, api.ErrFormat
		}
		card := slices.IndexFunc(p.Cards(), func(c api.Card) bool { return c.Name == parts[2] })
		switch {
		case card < 0:
			return nil, i + 1, api.ErrNone
		case counts[card] > 0:
			return nil, i + 1, api.ErrBusy
		}
		counts[card], _ = strconv.Atoi(parts[1])
	}
	if lines[len(lines)-1] != "" {
		return nil, len(lines), api.ErrFormat
	}
	l := []api.Copies{}
	for card, n := range counts {
		if n > 0 {
			l = append(l, api.Copies{Card: card, Count: n})
		}
	}
	if _, e := judged(p, l); e != api.OK {
		return nil, 0, e
	}
	return l, 0, api.OK
}

// P9.3: the calls of the chapter's examples.
func TestTextExamples(t *testing.T) {
	p := three(t)
	if s, e := deck.Text(p, list(0, 18, 1, 4)); s != "18 Well\n4 Jolt\n" || e != api.OK {
		t.Errorf("%q, error %d", s, e)
	}
	parses(t, p, "4 Jolt\n18 Well\n", list(0, 18, 1, 4), 0, api.OK)
	parses(t, p, "18 Well\n4 jolt\n", nil, 2, api.ErrNone)
	parses(t, p, "18 Well\n2 Well\n", nil, 2, api.ErrBusy)
	parses(t, p, "04 Jolt\n", nil, 1, api.ErrFormat)
	parses(t, p, "5 Jolt\n18 Well\n", nil, 0, api.ErrFull)
	parses(t, p, "", nil, 0, api.ErrShort)
}

// P9.3: the text has the count and the name of each line, whatever the name is like.
func TestText(t *testing.T) {
	p := six(t)
	for _, c := range []struct {
		l []api.Copies
		s string
	}{
		{list(0, 20), "20 Well\n"}, {list(0, 60), "60 Well\n"}, {list(5, 27), "27 a, b  c\n"}, {list(2, 20), "20 4 Fire\n"},
		{list(0, 9, 1, 1, 2, 3, 3, 2, 4, 4, 5, 10), "9 Well\n1 Jolt\n3 4 Fire\n2 Fire\n4 20\n10 a, b  c\n"},
	} {
		if s, e := deck.Text(p, c.l); s != c.s || e != api.OK {
			t.Errorf("Text(%d): %q, error %d; want %q", c.l, s, e, c.s)
		}
		parses(t, p, c.s, c.l, 0, api.OK)
	}
}

// P9.3: each number of one or two bytes, and longer ones: only those from 1 to 60 without leading zeros are counts.
func TestParseNumber(t *testing.T) {
	p := three(t)
	counts := map[string]int{}
	for n := 1; n <= 60; n++ {
		counts[strconv.Itoa(n)] = n
	}
	try := func(number string) {
		n := counts[number]
		switch {
		case n == 0:
			parses(t, p, number+" Well\n", nil, 1, api.ErrFormat)
		case n < 20:
			parses(t, p, number+" Well\n", nil, 0, api.ErrShort)
		default:
			parses(t, p, number+" Well\n", list(0, n), 0, api.OK)
		}
	}
	for i := range 1 << 16 {
		if s := string([]byte{byte(i >> 8), byte(i)}); !strings.ContainsAny(s, " \n") {
			try(s)
			try(s[:1])
		}
	}
	for n := range 1000 {
		try(strconv.Itoa(n))
	}
	for n := range 61 {
		s := strconv.Itoa(n)
		for _, number := range []string{"0" + s, "00" + s, "+" + s, "-" + s, "\t" + s, "\x00" + s, s + "\t", s + "\x00", s + ".", s + ".0", s + ",", s + "x", "0x" + s, "0b" + s, "1_" + s, s + "_0", s + "e0", "x" + s, s + "\u00a0", "\ufeff" + s} {
			parses(t, p, number+" Well\n", nil, 1, api.ErrFormat)
		}
	}
	for _, number := range []string{"", "100", "256", "276", "65556", "4294967316", "18446744073709551636", strings.Repeat("2", 1000), "\u0662\u0660", "\uff12\uff10", "XX", "twenty"} {
		try(number)
	}
}

// P9.3: a line is a number, a space, and one byte or more, and ends with a line feed.
func TestParseFormat(t *testing.T) {
	p := six(t)
	for _, line := range []string{"", " ", "  ", "20", "20 ", " 20 Well", "20\tWell", "20Well", "Well", "Well 20", " Well", "20,Well", "\r", "20\x00Well", "x20 Well", "20  ", "\ufeff20 Well"} {
		err := api.ErrFormat
		if line == "20  " {
			err = api.ErrNone // a name that is a space
		}
		for before, first := range []string{"", "4 20\n", "4 20\n1 Fire\n"} {
			for _, rest := range []string{"", "20 Well\n", "x\n", "1 Fire\n1 Fire\n"} {
				parses(t, p, first+line+"\n"+rest, nil, before+1, err)
			}
			if line != "" {
				parses(t, p, first+line, nil, before+1, api.ErrFormat)
			}
		}
	}
	parses(t, p, "20 Well\n\n", nil, 2, api.ErrFormat)
	parses(t, p, "\n20 Well\n", nil, 1, api.ErrFormat)
	parses(t, p, "20 Well\n\n1 Jolt\n", nil, 2, api.ErrFormat)
	parses(t, p, "20 Well\n1 Jolt", nil, 2, api.ErrFormat)
	parses(t, p, "20 Well\r1 Jolt\n", nil, 1, api.ErrNone)
}

// P9.3: all behind the first space is the name, byte by byte.
func TestParseName(t *testing.T) {
	p := six(t)
	for _, name := range []string{"well", "WELL", "Wel", "Wells", "Well ", " Well", "Well\r", "Well\x00", "Well\t", "Jolt Well", "5 Fire", "4  Fire", "4", "a,b  c", "a, b c", "20 Well", "0", "\xff", "W\u0435ll", " ", "\t", strings.Repeat("m", 33), strings.Repeat("Well", 1<<16)} {
		parses(t, p, "20 "+name+"\n", nil, 1, api.ErrNone)
		parses(t, p, "4 20\n2 Fire\n20 "+name+"\n1 Jolt\n", nil, 3, api.ErrNone)
	}
	for card, name := range []string{"Well", "Jolt", "4 Fire", "Fire", "20", "a, b  c"} {
		want := []api.Copies{{Card: card, Count: 4}, {Card: 5, Count: 16}}
		if card == 0 || card == 2 || card == 5 {
			parses(t, p, "20 "+name+"\n", list(card, 20), 0, api.OK)
			want = list(card, 20)
		}
		if len(want) == 2 {
			parses(t, p, "16 a, b  c\n4 "+name+"\n", want, 0, api.OK)
		}
	}
}

// P9.3: within a line the format comes before the name, and the name before what was there; lines come before the decklist.
func TestParseOrder(t *testing.T) {
	p := six(t)
	for _, c := range []struct {
		s    string
		line int
		e    api.Errno
	}{
		{"61 nobody\n", 1, api.ErrFormat}, {"20 nobody", 1, api.ErrFormat}, {"20 Well\n61 Well\n", 2, api.ErrFormat}, {"20 Well\n20 Well", 2, api.ErrFormat}, {"20 Well\n20 nobody\n20 Well\n", 2, api.ErrNone},
		{"20 Well\n1 Well\n20 nobody\n", 2, api.ErrBusy}, {"20 Well\n1 Well\nx\n", 2, api.ErrBusy}, {"x\n20 Well\n1 Well\n", 1, api.ErrFormat}, {"1 Jolt\n2 Fire\n1 Jolt\n", 3, api.ErrBusy}, {"1 Jolt\n2 Fire\n3 20\n2 Fire\n1 Jolt\n", 4, api.ErrBusy},
		{"5 Jolt\nx\n", 2, api.ErrFormat}, {"5 Jolt\n1 nobody\n", 2, api.ErrNone}, {"60 Jolt\n1 Jolt\n", 2, api.ErrBusy}, {"60 Well\n60 4 Fire\n1 nobody\n", 3, api.ErrNone},
		{"5 Jolt\n", 0, api.ErrFull}, {"60 Well\n5 Jolt\n", 0, api.ErrFull}, {"5 20\n60 Well\n", 0, api.ErrFull}, {"60 Fire\n20 Well\n", 0, api.ErrFull},
		{"19 Well\n", 0, api.ErrShort}, {"4 Jolt\n4 Fire\n4 20\n", 0, api.ErrShort}, {"60 Well\n1 Jolt\n", 0, api.ErrLong}, {"4 Jolt\n57 Well\n", 0, api.ErrLong}, {"60 Well\n60 4 Fire\n60 a, b  c\n4 Fire\n", 0, api.ErrLong},
	} {
		parses(t, p, c.s, nil, c.line, c.e)
		if l, line, e := read(p, c.s); len(l) != 0 || line != c.line || e != c.e {
			t.Errorf("%q is read as %d, line %d, error %d; want %d, %d", c.s, l, line, e, c.line, c.e)
		}
	}
}

// P9.4: the lines may have any order.
func TestParseAnyOrder(t *testing.T) {
	p := six(t)
	for _, l := range [][]api.Copies{list(0, 9, 1, 1, 2, 3, 3, 2, 4, 4, 5, 10), list(0, 16, 1, 4), list(2, 20, 3, 4, 5, 36)} {
		s, _ := deck.Text(p, l)
		lines := strings.SplitAfter(s, "\n")
		lines = lines[:len(lines)-1]
		tried := 0
		each(lines, 0, func() {
			tried++
			parses(t, p, strings.Join(lines, ""), l, 0, api.OK)
		})
		if tried < 2 {
			t.Errorf("%d orders of %q", tried, s)
		}
	}
	all := many(t)
	lines, l := []string{}, []api.Copies{}
	for card := 399; card >= 340; card-- {
		lines, l = append(lines, "1 No. "+strconv.Itoa(card)+"\n"), append(l, api.Copies{Card: card, Count: 1})
	}
	slices.Reverse(l)
	r := rand.New(rand.NewPCG(9, 3))
	for range 200 {
		parses(t, all, strings.Join(lines, ""), l, 0, api.OK)
		r.Shuffle(len(lines), func(i, j int) { lines[i], lines[j] = lines[j], lines[i] })
	}
}

// each does something with each order of what a list has from an index on.
func each(l []string, from int, do func()) {
	if from == len(l) {
		do()
	}
	for i := from; i < len(l); i++ {
		l[from], l[i] = l[i], l[from]
		each(l, from+1, do)
		l[from], l[i] = l[i], l[from]
	}
}

// P9.3: texts in which one byte is another one, is missing or was put in, against a second reading.
func TestParseChanged(t *testing.T) {
	p := six(t)
	tried := map[api.Errno]int{}
	try := func(s string) {
		l, line, e := read(p, s)
		tried[e]++
		parses(t, p, s, l, line, e)
	}
	for _, s := range []string{"9 Well\n1 Jolt\n3 4 Fire\n2 Fire\n4 20\n10 a, b  c\n", "56 Well\n4 Fire\n", "20 4 Fire\n"} {
		for at := range len(s) {
			try(s[:at] + s[at+1:])
			try(s[:at])
			try(s[at:])
			for n := range 256 {
				try(s[:at] + string([]byte{byte(n)}) + s[at+1:])
				try(s[:at] + string([]byte{byte(n)}) + s[at:])
			}
		}
	}
	for _, e := range []api.Errno{api.OK, api.ErrFormat, api.ErrNone, api.ErrBusy, api.ErrFull, api.ErrShort, api.ErrLong} {
		if tried[e] < 2 {
			t.Errorf("the error %d was tried %d times", e, tried[e])
		}
	}
}

// P9.3: texts that are put together from pieces of lines, against a second reading.
func TestParsePieces(t *testing.T) {
	p := six(t)
	pieces := []string{"20", "4", "1", "16", "60", "0", " ", " ", " ", " ", "Well", "Jolt", "4 Fire", "Fire", "a, b  c", "\n", "\n", "\n", "\n", "x", "20 Well\n", "16 4 Fire\n", "4 Jolt\n", "4 20\n", "1 Fire\n"}
	r := rand.New(rand.NewPCG(9, 4))
	for range 200000 {
		s := ""
		for range r.IntN(9) {
			s += pieces[r.IntN(len(pieces))]
		}
		l, line, e := read(p, s)
		parses(t, p, s, l, line, e)
	}
}

// P9.3: a pool without cards has no decklist, and long texts end at the first line that is wrong.
func TestParseEnds(t *testing.T) {
	empty := made(t)
	parses(t, empty, "", nil, 0, api.ErrShort)
	parses(t, empty, "20 Well\n", nil, 1, api.ErrNone)
	parses(t, empty, "x\n", nil, 1, api.ErrFormat)
	p := many(t)
	s := ""
	for card := range 400 {
		s += "1 No. " + strconv.Itoa(card) + "\n"
	}
	parses(t, p, s, nil, 0, api.ErrLong)
	parses(t, p, s+"1 No. 0\n", nil, 401, api.ErrBusy)
	parses(t, p, s+"1 No. 400\n", nil, 401, api.ErrNone)
	parses(t, p, s+"\n", nil, 401, api.ErrFormat)
	parses(t, p, strings.Repeat("\n", 1<<20), nil, 1, api.ErrFormat)
	parses(t, p, strings.Repeat("1 No. 7\n", 1<<16), nil, 2, api.ErrBusy)
	parses(t, p, strings.Repeat("9", 1<<20), nil, 1, api.ErrFormat)
}

// P9.3: the decklists of one text share no memory.
func TestParseSharing(t *testing.T) {
	p, s := six(t), "4 Jolt\n16 Well\n"
	first, _, _ := deck.Parse(p, s)
	second, _, _ := deck.Parse(p, s)
	clear(first)
	if !slices.Equal(second, list(0, 16, 1, 4)) {
		t.Errorf("the decklists share memory: %d", second)
	}
	parses(t, p, s, list(0, 16, 1, 4), 0, api.OK)
}
