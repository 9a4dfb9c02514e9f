package ident_test

import (
	"math"
	"slices"
	"testing"

	"zeitnot/api"
	"zeitnot/ident"
)

// made returns ids with a cap, of which some are taken.
func made(t *testing.T, most int, taken ...int) *ident.Ids {
	t.Helper()
	s, e := ident.New(most)
	if s == nil || e != api.OK {
		t.Fatalf("New(%d): %v, error %d", most, s, e)
	}
	for _, id := range taken {
		if e := s.Claim(id); e != api.OK {
			t.Fatalf("Claim(%d) of %d: error %d", id, most, e)
		}
	}
	return s
}

// collected goes over an iterator, but not further than any ids can reach.
func collected(t *testing.T, s *ident.Ids) []int {
	t.Helper()
	l := []int{}
	for id := range s.All() {
		if l = append(l, id); len(l) > ident.MaxID {
			t.Fatal("All does not end")
		}
	}
	return l
}

// holds checks everything that can be asked of ids with a cap: the ones that are taken are given in increasing order.
func holds(t *testing.T, s *ident.Ids, most int, taken ...int) {
	t.Helper()
	if s.Len() != len(taken) || s.Room() != most-len(taken) {
		t.Errorf("Len %d, Room %d; want %d, %d", s.Len(), s.Room(), len(taken), most-len(taken))
	}
	if l := collected(t, s); !slices.Equal(l, taken) {
		t.Errorf("All %d; want %d", l, taken)
	}
	for id := -1; id <= most+130; id++ {
		if _, want := slices.BinarySearch(taken, id); s.Has(id) != want {
			t.Errorf("Has(%d) %v; want %v", id, s.Has(id), want)
		}
	}
}

// with returns a list in increasing order with one more id.
func with(taken []int, id int) []int {
	l := append(slices.Clone(taken), id)
	slices.Sort(l)
	return l
}

// without returns a list without an id.
func without(taken []int, id int) []int {
	l := []int{}
	for _, x := range taken {
		if x != id {
			l = append(l, x)
		}
	}
	return l
}

// leastFree returns the least id that is not in a list, or 0 if there is none up to a cap.
func leastFree(most int, taken []int) int {
	for id := 1; id <= most; id++ {
		if !slices.Contains(taken, id) {
			return id
		}
	}
	return 0
}

// subset returns the ids up to a cap whose bits are set in a number.
func subset(most, number int) []int {
	l := []int{}
	for id := 1; id <= most; id++ {
		if number>>(id-1)&1 == 1 {
			l = append(l, id)
		}
	}
	return l
}

// upTo returns the numbers from 1 to a greatest one.
func upTo(most int) []int {
	l := []int{}
	for id := range most {
		l = append(l, id+1)
	}
	return l
}

// noIDs are numbers that are no ids of a cap.
func noIDs(most int) []int {
	return []int{0, -1, -63, -64, -65, math.MinInt, math.MinInt + 1, most + 1, most + 2, most + 64, math.MaxInt, math.MaxInt - 1}
}

// capsAtWords are caps around the sizes of words, and the greatest ones.
var capsAtWords = []int{1, 2, 3, 31, 32, 33, 63, 64, 65, 127, 128, 129, 255, 256, 257, 4095, 4096}

// P3.1, P3.2, P3.3: the calls of the chapter's examples, one after the other.
func TestExamples(t *testing.T) {
	s := made(t, 3)
	take := func(want int, err api.Errno) {
		t.Helper()
		if id, e := s.Take(); id != want || e != err {
			t.Errorf("Take: %d, error %d; want %d, %d", id, e, want, err)
		}
	}
	is := func(e, want api.Errno) {
		t.Helper()
		if e != want {
			t.Errorf("error %d; want %d", e, want)
		}
	}
	take(1, api.OK)
	take(2, api.OK)
	is(s.Free(1), api.OK)
	take(1, api.OK)
	is(s.Claim(3), api.OK)
	take(0, api.ErrFull)
	is(s.Free(2), api.OK)
	is(s.Free(2), api.ErrNone)
	take(2, api.OK)
	holds(t, s, 3, 1, 2, 3)
	is(s.Claim(0), api.ErrArg)
	is(s.Claim(4), api.ErrArg)
	is(s.Claim(2), api.ErrBusy)
	if s.Has(4) {
		t.Error("Has(4)")
	}
	holds(t, s, 3, 1, 2, 3)
}

// P3.1: caps from 1 to MaxID are allowed, and all ids are free at first.
func TestNew(t *testing.T) {
	if ident.MaxID != 4096 {
		t.Error("MaxID", ident.MaxID)
	}
	for most := 1; most <= 200; most++ {
		holds(t, made(t, most), most)
	}
	holds(t, made(t, 4095), 4095)
	holds(t, made(t, 4096), 4096)
	for _, most := range []int{0, -1, -64, math.MinInt, 4097, 4160, math.MaxInt} {
		if s, e := ident.New(most); s != nil || e != api.ErrArg {
			t.Errorf("New(%d): %v, error %d", most, s, e)
		}
	}
}

// P3.1: Take takes the least id that is free, whatever is taken.
func TestTakeOutOfAllSubsets(t *testing.T) {
	for most := 1; most <= 7; most++ {
		for number := range 1 << most {
			taken := subset(most, number)
			s := made(t, most, taken...)
			id, e := s.Take()
			want := leastFree(most, taken)
			if want == 0 {
				if id != 0 || e != api.ErrFull {
					t.Errorf("Take of %d with %d: %d, error %d", most, taken, id, e)
				}
				holds(t, s, most, taken...)
				continue
			}
			if id != want || e != api.OK {
				t.Errorf("Take of %d with %d: %d, error %d; want %d", most, taken, id, e, want)
			}
			holds(t, s, most, with(taken, want)...)
		}
	}
}

// P3.1: Claim takes an id that is free and Free frees one that is taken; with an error nothing changes.
func TestClaimAndFreeOfAllSubsets(t *testing.T) {
	for most := 1; most <= 6; most++ {
		for number := range 1 << most {
			taken := subset(most, number)
			for id := 1; id <= most; id++ {
				claimed, freed := made(t, most, taken...), made(t, most, taken...)
				claim, free := claimed.Claim(id), freed.Free(id)
				if slices.Contains(taken, id) {
					if claim != api.ErrBusy || free != api.OK {
						t.Errorf("%d of %d with %d: Claim %d, Free %d", id, most, taken, claim, free)
					}
					holds(t, claimed, most, taken...)
					holds(t, freed, most, without(taken, id)...)
					continue
				}
				if claim != api.OK || free != api.ErrNone {
					t.Errorf("%d of %d with %d: Claim %d, Free %d", id, most, taken, claim, free)
				}
				holds(t, claimed, most, with(taken, id)...)
				holds(t, freed, most, taken...)
			}
		}
	}
}

// P3.1: a number that is not an id is ErrArg, and is nothing that could be busy or free.
func TestNumbersThatAreNoIDs(t *testing.T) {
	for _, most := range capsAtWords {
		for _, taken := range [][]int{{}, {1}, {most}, subset(min(most, 60), 1<<60-1)} {
			s := made(t, most, taken...)
			for _, id := range noIDs(most) {
				if e := s.Claim(id); e != api.ErrArg {
					t.Errorf("Claim(%d) of %d: error %d", id, most, e)
				}
				if e := s.Free(id); e != api.ErrArg {
					t.Errorf("Free(%d) of %d: error %d", id, most, e)
				}
				if s.Has(id) {
					t.Errorf("Has(%d) of %d", id, most)
				}
			}
			holds(t, s, most, taken...)
		}
	}
}

// P3.1, P3.4: as many ids can be taken as the cap says, the greatest one is the cap, and Len and Room are together the cap.
func TestTakeAll(t *testing.T) {
	for _, most := range capsAtWords {
		s := made(t, most)
		for want := 1; want <= most; want++ {
			if s.Has(want) {
				t.Errorf("of %d: Has(%d) before it is taken", most, want)
			}
			if id, e := s.Take(); id != want || e != api.OK || !s.Has(want) {
				t.Fatalf("of %d: Take %d, error %d; want %d", most, id, e, want)
			}
			if s.Len() != want || s.Room() != most-want {
				t.Errorf("of %d: Len %d, Room %d; want %d, %d", most, s.Len(), s.Room(), want, most-want)
			}
		}
		for range 3 {
			if id, e := s.Take(); id != 0 || e != api.ErrFull {
				t.Errorf("of %d: Take %d, error %d", most, id, e)
			}
		}
		holds(t, s, most, upTo(most)...)
	}
}

// P3.1, P3.4: of ids that are all taken, each one that is freed is the one that is taken next.
func TestFreedIsTakenNext(t *testing.T) {
	for _, most := range capsAtWords {
		s := made(t, most, upTo(most)...)
		for id := most; id >= 1; id-- {
			if e := s.Free(id); e != api.OK || s.Has(id) || s.Room() != 1 {
				t.Errorf("Free(%d) of %d: error %d", id, most, e)
			}
			if got, e := s.Take(); got != id || e != api.OK {
				t.Errorf("Take of %d: %d, error %d; want %d", most, got, e, id)
			}
		}
		if s.Len() != most || s.Room() != 0 {
			t.Errorf("of %d: Len %d, Room %d", most, s.Len(), s.Room())
		}
	}
}

// model is ids as a list in increasing order, which is searched from its front.
type model struct {
	most  int
	taken []int
}

func (m *model) take() (int, api.Errno) {
	id := leastFree(m.most, m.taken)
	if id == 0 {
		return 0, api.ErrFull
	}
	m.taken = with(m.taken, id)
	return id, api.OK
}

func (m *model) claim(id int) api.Errno {
	switch {
	case id < 1 || id > m.most:
		return api.ErrArg
	case slices.Contains(m.taken, id):
		return api.ErrBusy
	}
	m.taken = with(m.taken, id)
	return api.OK
}

func (m *model) free(id int) api.Errno {
	switch {
	case id < 1 || id > m.most:
		return api.ErrArg
	case !slices.Contains(m.taken, id):
		return api.ErrNone
	}
	m.taken = without(m.taken, id)
	return api.OK
}

// P3.1 to P3.4: long runs of calls in any order agree with the model.
func TestRuns(t *testing.T) {
	for _, most := range []int{1, 5, 63, 64, 65, 130} {
		s, m, seed := made(t, most), &model{most: most}, uint64(most)
		for range 3000 {
			seed = seed*6364136223846793005 + 1442695040888963407
			id := int(seed>>40) % (most + 2)
			switch seed >> 33 % 3 {
			case 0:
				got, e := s.Take()
				if want, err := m.take(); got != want || e != err {
					t.Fatalf("Take of %d: %d, error %d; want %d, %d", most, got, e, want, err)
				}
			case 1:
				if e, want := s.Claim(id), m.claim(id); e != want {
					t.Fatalf("Claim(%d) of %d: error %d; want %d", id, most, e, want)
				}
			case 2:
				if e, want := s.Free(id), m.free(id); e != want {
					t.Fatalf("Free(%d) of %d: error %d; want %d", id, most, e, want)
				}
			}
			if s.Len() != len(m.taken) || s.Len()+s.Room() != most {
				t.Fatalf("of %d: Len %d, Room %d; want %d together", most, s.Len(), s.Room(), most)
			}
		}
		holds(t, s, most, m.taken...)
	}
}

// P3.3: an iterator goes over the ids as they were when it was made, also while its loop changes them.
func TestAllIsOfTheCall(t *testing.T) {
	s := made(t, 71, 2, 5, 64, 65, 70)
	seq := s.All()
	seen, others := []int{}, []int{6, 63, 1, 66, 71}
	for id := range seq {
		seen = append(seen, id)
		if e := s.Free(id); e != api.OK {
			t.Errorf("Free(%d): error %d", id, e)
		}
		other := others[len(seen)-1]
		if e := s.Claim(other); e != api.OK {
			t.Errorf("Claim(%d): error %d", other, e)
		}
	}
	want := []int{2, 5, 64, 65, 70}
	if !slices.Equal(seen, want) {
		t.Errorf("went over %d; want %d", seen, want)
	}
	if l := slices.Collect(seq); !slices.Equal(l, want) {
		t.Errorf("went over %d the second time; want %d", l, want)
	}
	holds(t, s, 71, 1, 6, 63, 66, 71)
}

// P3.3: a loop may stop anywhere, and within another loop of the same iterator.
func TestAllStopsAndStartsAgain(t *testing.T) {
	taken := []int{1, 3, 63, 64, 65, 128}
	s := made(t, 128, taken...)
	seq := s.All()
	for many := 1; many <= len(taken); many++ {
		seen := []int{}
		for id := range seq {
			seen = append(seen, id)
			if len(seen) == many {
				break
			}
		}
		if !slices.Equal(seen, taken[:many]) {
			t.Errorf("the first %d: %d", many, seen)
		}
	}
	pairs := 0
	for range seq {
		for range seq {
			pairs++
		}
	}
	if pairs != len(taken)*len(taken) {
		t.Errorf("%d pairs", pairs)
	}
	holds(t, s, 128, taken...)
}

// P3.3: two iterators of different times do not disturb each other, and one over nothing is not nil.
func TestAllOfDifferentTimes(t *testing.T) {
	s := made(t, 4)
	none := s.All()
	s.Claim(4)
	one := s.All()
	s.Claim(2)
	s.Free(4)
	if none == nil {
		t.Fatal("All of no ids is nil")
	}
	if l := slices.Collect(none); len(l) != 0 {
		t.Errorf("before: %d", l)
	}
	if l := slices.Collect(one); !slices.Equal(l, []int{4}) {
		t.Errorf("between: %d", l)
	}
	if l := slices.Collect(s.All()); !slices.Equal(l, []int{2}) {
		t.Errorf("after: %d", l)
	}
}

// P3.3: a copy and its original go on without each other.
func TestCopy(t *testing.T) {
	for _, most := range []int{3, 64, 65, 4096} {
		s := made(t, most, 2)
		c := s.Copy()
		holds(t, c, most, 2)
		if id, e := c.Take(); id != 1 || e != api.OK {
			t.Errorf("Take of the copy: %d, error %d", id, e)
		}
		if id, e := c.Take(); id != 3 || e != api.OK {
			t.Errorf("Take of the copy: %d, error %d", id, e)
		}
		holds(t, s, most, 2)
		if e := s.Free(2); e != api.OK {
			t.Errorf("Free of the original: error %d", e)
		}
		if e := s.Claim(most); e != api.OK {
			t.Errorf("Claim of the original: error %d", e)
		}
		holds(t, c, most, 1, 2, 3)
		holds(t, s, most, most)
		if e := c.Claim(most + 1); e != api.ErrArg {
			t.Errorf("Claim above the cap of the copy: error %d", e)
		}
	}
}

// P1: nil and zero ids have errors and zero values, before any other error.
func TestNilAndZero(t *testing.T) {
	for i, s := range []*ident.Ids{nil, {}, new(ident.Ids)} {
		if id, e := s.Take(); id != 0 || e != api.ErrNil {
			t.Errorf("%d: Take %d, error %d", i, id, e)
		}
		for _, id := range []int{1, 0, -1, ident.MaxID, ident.MaxID + 1, math.MinInt, math.MaxInt} {
			if e := s.Claim(id); e != api.ErrNil {
				t.Errorf("%d: Claim(%d) error %d", i, id, e)
			}
			if e := s.Free(id); e != api.ErrNil {
				t.Errorf("%d: Free(%d) error %d", i, id, e)
			}
			if s.Has(id) {
				t.Errorf("%d: Has(%d)", i, id)
			}
		}
		if s.Len() != 0 || s.Room() != 0 || s.Copy() != nil {
			t.Errorf("%d: Len %d, Room %d, Copy %v", i, s.Len(), s.Room(), s.Copy())
		}
		seq := s.All()
		if seq == nil {
			t.Fatalf("%d: All is nil", i)
		}
		if l := slices.Collect(seq); len(l) != 0 {
			t.Errorf("%d: All %d", i, l)
		}
	}
}

// P1: every call ends without a panic, with any numbers, on ids of every cap around a word.
func TestNoPanic(t *testing.T) {
	for _, most := range append(capsAtWords, 0, -1, 4097, math.MinInt, math.MaxInt) {
		s, _ := ident.New(most)
		for _, id := range append(noIDs(most), 1, 64, 65, most) {
			s.Claim(id)
			s.Take()
			s.Has(id)
			s.Free(id)
		}
		for range s.Copy().All() {
			break
		}
		if s.Len()+s.Room() != max(0, min(most, ident.MaxID)) && s != nil {
			t.Errorf("of %d: Len %d, Room %d", most, s.Len(), s.Room())
		}
	}
}
