package deck

import (
	"cmp"
	"slices"
	"strconv"
	"strings"

	"zeitnot/api"
	"zeitnot/pool"
)

// Text returns the text of a decklist, or an error.
func Text(p *pool.Pool, l []api.Copies) (string, api.Errno) {
	if _, e := Check(p, l); e != api.OK {
		return "", e
	}
	var text strings.Builder
	for _, c := range l {
		text.WriteString(strconv.Itoa(c.Count) + " " + cardOf(p, c).Name + "\n")
	}
	return text.String(), api.OK
}

// Parse returns the decklist with a text, or an error, and the number of the line that is wrong.
func Parse(p *pool.Pool, s string) (l []api.Copies, line int, e api.Errno) {
	if zero(p) {
		return nil, 0, api.ErrNil
	}
	had := map[int]bool{}
	for text := range strings.Lines(s) {
		line++
		c, e := parseLine(p, text)
		switch {
		case e != api.OK:
			return nil, line, e
		case had[c.Card]:
			return nil, line, api.ErrBusy
		}
		had[c.Card] = true
		l = append(l, c)
	}
	slices.SortFunc(l, byCard)
	if _, e = Check(p, l); e != api.OK {
		return nil, 0, e
	}
	return l, 0, api.OK
}

// parseLine returns the line of a decklist with a text, which is to end with a line feed, or an error.
func parseLine(p *pool.Pool, text string) (api.Copies, api.Errno) {
	line, ended := strings.CutSuffix(text, "\n")
	number, name, _ := strings.Cut(line, " ")
	n := count(number)
	if !ended || n == 0 || name == "" {
		return api.Copies{}, api.ErrFormat
	}
	i, e := p.Find(name)
	if e != api.OK {
		return api.Copies{}, e
	}
	return api.Copies{Card: i, Count: n}, api.OK
}

// count returns the number from 1 to MaxCards with a text, or 0. Atoi takes signs and leading zeros, too, so that the number is written again.
func count(s string) int {
	n, err := strconv.Atoi(s)
	if err != nil || n < 1 || n > MaxCards || strconv.Itoa(n) != s {
		return 0
	}
	return n
}

// byCard brings lines into the order of the indices of their cards.
func byCard(a, b api.Copies) int {
	return cmp.Compare(a.Card, b.Card)
}
