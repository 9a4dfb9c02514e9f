package pool_test

import (
	"bytes"
	"math/big"
	"slices"
	"testing"

	"zeitnot/api"
	"zeitnot/card"
	"zeitnot/pool"
)

// sumOf returns the check sum of bytes, with integers of any size that are cut at the end.
func sumOf(b []byte) uint32 {
	n := big.NewInt(17)
	for _, x := range b {
		n.Mul(n, big.NewInt(31))
		n.Add(n, big.NewInt(int64(x)))
	}
	return uint32(n.Mod(n, new(big.Int).Lsh(big.NewInt(1), 32)).Uint64())
}

// sealed returns bytes with their check sum behind them.
func sealed(parts ...[]byte) []byte {
	b := slices.Concat(parts...)
	n := sumOf(b)
	return append(b, byte(n/(1<<24)), byte(n/(1<<16)%256), byte(n/(1<<8)%256), byte(n%256))
}

// cardBytes returns the bytes of valid cards.
func cardBytes(t *testing.T, l ...api.Card) []byte {
	t.Helper()
	b := []byte{}
	for _, c := range l {
		part, e := card.Encode(c)
		if e != api.OK {
			t.Fatalf("the card %v: error %d", c, e)
		}
		b = append(b, part...)
	}
	return b
}

// bytesOf returns the bytes of a pool of some cards.
func bytesOf(t *testing.T, l []api.Card) []byte {
	t.Helper()
	return sealed([]byte{byte(len(l) / 256), byte(len(l) % 256)}, cardBytes(t, l...))
}

// decodes checks that Decode returns the pool of some cards for some bytes.
func decodes(t *testing.T, b []byte, l []api.Card) {
	t.Helper()
	kept := bytes.Clone(b)
	p, e := pool.Decode(b)
	if p == nil || e != api.OK {
		t.Fatalf("Decode(%v): %v, error %d", b, p, e)
	}
	if !bytes.Equal(b, kept) {
		t.Fatalf("Decode(%v) has changed its argument", kept)
	}
	holds(t, p, l)
	if again, e := p.Encode(); !bytes.Equal(again, b) || e != api.OK {
		t.Fatalf("Encode of what was decoded: %v, error %d; want %v", again, e, b)
	}
}

// fails checks that Decode returns an error for some bytes, and nothing else.
func fails(t *testing.T, b []byte, err api.Errno) {
	t.Helper()
	kept := bytes.Clone(b)
	if p, e := pool.Decode(b); p != nil || e != err {
		t.Fatalf("Decode(%v): %v, error %d; want %d", b, p, e, err)
	}
	if !bytes.Equal(b, kept) {
		t.Fatalf("Decode(%v) has changed its argument", kept)
	}
}

// P8.3: the calls of the chapter's examples, and the bytes of its pool.
func TestBytesExamples(t *testing.T) {
	none := []byte{0, 0, 0, 0, 63, 209}
	if b, e := made(t, nil).Encode(); !bytes.Equal(b, none) || e != api.OK {
		t.Errorf("no cards: %v, error %d", b, e)
	}
	decodes(t, none, nil)
	fails(t, []byte{0, 0, 0, 0, 63, 208}, api.ErrCheck)
	fails(t, []byte{0, 0}, api.ErrShort)
	two := []byte{
		0, 2, 1, 1, 4, 87, 101, 108, 108, 0, 0, 0, 0, 0, 1, 0, 0, 0, 0, 0,
		4, 1, 4, 74, 111, 108, 116, 1, 0, 0, 0, 0, 0, 0, 0, 0, 1, 1, 5, 3, 0, 0, 0,
	}
	if b, e := made(t, []api.Card{well(), jolt()}).Encode(); !bytes.Equal(b, sealed(two)) || len(b) != 47 || e != api.OK {
		t.Errorf("Well and Jolt: %v, error %d", b, e)
	}
	decodes(t, sealed(two), []api.Card{well(), jolt()})
}

// P8.3: the check sum of bytes, also where it is beyond 2^32.
func TestSum(t *testing.T) {
	for _, c := range []struct {
		b    []byte
		want uint32
	}{{nil, 17}, {[]byte{}, 17}, {[]byte{0}, 527}, {[]byte{1}, 528}, {[]byte{255}, 782}, {[]byte{0, 0}, 16337}, {[]byte{0, 2, 1}, 506510}, {[]byte{1, 2, 0}, 507470}} {
		if n := pool.Sum(c.b); n != c.want {
			t.Errorf("Sum(%v) %d; want %d", c.b, n, c.want)
		}
	}
	long := []byte{}
	for i := range 3000 {
		for _, b := range [][]byte{long, make([]byte, i%50), bytes.Repeat([]byte{255}, i%50)} {
			kept := bytes.Clone(b)
			if n := pool.Sum(b); n != sumOf(b) || !bytes.Equal(b, kept) {
				t.Fatalf("Sum(%v) %d; want %d", b, n, sumOf(b))
			}
		}
		long = append(long, byte(i*i%251+i/11))
		if i%40 == 39 {
			long = long[20:]
		}
	}
}

// P8.3, P8.4: each pool has its bytes, and Decode inverts Encode, and Encode Decode.
func TestEncode(t *testing.T) {
	for _, l := range lists() {
		p, want := made(t, l), bytesOf(t, l)
		first, e := p.Encode()
		second, f := p.Encode()
		if !bytes.Equal(first, want) || e != api.OK || f != api.OK {
			t.Fatalf("Encode of %d cards: %v, errors %d and %d; want %v", len(l), first, e, f, want)
		}
		clear(first)
		if !bytes.Equal(second, want) {
			t.Error("the bytes share memory")
		}
		holds(t, p, l)
		decodes(t, want, l)
	}
}

// P8.3: fewer than six bytes are too short, also if their check sum is right.
func TestDecodeShort(t *testing.T) {
	fails(t, nil, api.ErrShort)
	fails(t, sealed(), api.ErrShort)
	for n := range 256 {
		for size := range 6 {
			fails(t, bytes.Repeat([]byte{byte(n)}, size), api.ErrShort)
		}
		fails(t, sealed([]byte{byte(n)}), api.ErrShort)
	}
	b := bytesOf(t, []api.Card{wisp(), well(), jolt()})
	for size := range b {
		err := api.ErrCheck
		if size < 6 {
			err = api.ErrShort
		}
		fails(t, b[:size], err)
		fails(t, b[len(b)-size:], err)
	}
}

// P8.3, P8.4: bytes that differ from those of a pool in just one byte have not their check sum.
func TestDecodeOneByte(t *testing.T) {
	for _, l := range [][]api.Card{nil, {well()}, {wisp(), well(), jolt()}, many(12)} {
		b := bytesOf(t, l)
		for at := range b {
			for n := range 256 {
				changed := bytes.Clone(b)
				changed[at] = byte(n)
				if changed[at] != b[at] {
					fails(t, changed, api.ErrCheck)
				}
			}
		}
		fails(t, append(bytes.Clone(b), 0), api.ErrCheck)
		fails(t, append([]byte{0}, b...), api.ErrCheck)
		// The bytes of the check sum the other way round.
		last := bytes.Clone(b)
		slices.Reverse(last[len(last)-4:])
		fails(t, last, api.ErrCheck)
	}
}

// P8.3: with a right check sum, what is not a number and just as many cards is no format.
func TestDecodeNumber(t *testing.T) {
	for _, size := range []int{0, 1, 2, 3, 255, 256, 257, 400} {
		l := many(size)
		b := cardBytes(t, l...)
		for _, number := range []int{0, 1, 2, 3, 4, 254, 255, 256, 257, 258, 399, 400, 401, 512, 768, 1024, 65535} {
			first := []byte{byte(number / 256), byte(number % 256)}
			if number == size {
				decodes(t, sealed(first, b), l)
				fails(t, sealed(first, b, []byte{0}), api.ErrFormat)
				fails(t, sealed(first, b, []byte{255, 1, 1, 1}), api.ErrFormat)
				fails(t, sealed(first, b, sealed(first, b)), api.ErrFormat)
				fails(t, sealed(first, []byte{0}, b), api.ErrFormat)
				continue
			}
			fails(t, sealed(first, b), api.ErrFormat)
		}
	}
	for size := 3; size < 100; size++ {
		fails(t, sealed(make([]byte, size)), api.ErrFormat)
	}
}

// P8.3: bytes of which there are too many cards, or which end within one, are no format.
func TestDecodeLimits(t *testing.T) {
	for _, size := range []int{401, 402, 656, 800} {
		fails(t, bytesOf(t, many(size)), api.ErrFormat)
	}
	l := []api.Card{wisp(), well(), jolt()}
	b := cardBytes(t, l...)
	for short := range b {
		fails(t, sealed([]byte{0, 3}, b[:short]), api.ErrFormat)
		if short > 0 {
			fails(t, sealed([]byte{0, 3}, b[short:]), api.ErrFormat)
		}
	}
	decodes(t, sealed([]byte{0, 3}, b), l)
}

// P8.3: cards that are not valid, and those of the same name, are no pool, wherever they are.
func TestDecodeCards(t *testing.T) {
	good := cardBytes(t, well(), jolt())
	for _, bad := range [][]byte{
		make([]byte, 14), {1, 0, 1, 120, 0, 0, 0, 0, 0, 0, 0, 0, 0, 0, 0}, {1, 5, 1, 120, 0, 0, 0, 0, 0, 0, 0, 0, 0, 0, 0}, {0, 1, 1, 120, 0, 0, 0, 0, 0, 0, 0, 0, 0, 0, 0}, {5, 1, 1, 120, 0, 0, 0, 0, 0, 0, 0, 0, 0, 0, 0},
		{1, 1, 1, 32, 0, 0, 0, 0, 0, 0, 0, 0, 0, 0, 0}, {1, 1, 1, 120, 0, 0, 0, 0, 0, 4, 0, 0, 0, 0, 0}, {2, 1, 1, 120, 0, 0, 0, 0, 0, 0, 0, 0, 0, 0, 0}, {4, 1, 1, 120, 0, 0, 0, 0, 0, 0, 0, 0, 0, 0, 0}, {1, 1, 33, 120, 0, 0, 0, 0, 0, 0, 0, 0, 0, 0, 0},
		cardBytes(t, well()), cardBytes(t, jolt()),
		cardBytes(t, named("Well")), cardBytes(t, named("Jolt")),
	} {
		fails(t, sealed([]byte{0, 3}, bad, good), api.ErrFormat)
		fails(t, sealed([]byte{0, 3}, good[:18], bad, good[18:]), api.ErrFormat)
		fails(t, sealed([]byte{0, 3}, good, bad), api.ErrFormat)
		// The check sum is looked at before all else.
		wrong := sealed([]byte{0, 3}, good, bad)
		wrong[len(wrong)-1]++
		fails(t, wrong, api.ErrCheck)
	}
	decodes(t, sealed([]byte{0, 3}, good, cardBytes(t, named("x"))), []api.Card{well(), jolt(), named("x")})
}

// P8.3, P8.4: any bytes with a right check sum are those of the pool that is written there, or no format.
func TestDecodeChanged(t *testing.T) {
	l := []api.Card{wisp(), well(), jolt()}
	b := bytesOf(t, l)
	b = b[:len(b)-4]
	found := 0
	for at := range b {
		for n := range 256 {
			changed := bytes.Clone(b)
			changed[at] = byte(n)
			want, whole := written(changed)
			if !whole {
				fails(t, sealed(changed), api.ErrFormat)
				continue
			}
			found++
			decodes(t, sealed(changed), want)
		}
	}
	if found < 1000 {
		t.Errorf("%d changed pools were decoded", found)
	}
}

// written returns the cards of a pool of which the bytes but for the check sum are given, and whether there is one.
func written(b []byte) ([]api.Card, bool) {
	l, at, names := []api.Card{}, 2, map[string]bool{}
	for at < len(b) {
		c, size, e := card.Decode(b[at:])
		if e != api.OK || names[c.Name] {
			return nil, false
		}
		l, at, names[c.Name] = append(l, c), at+size, true
	}
	return l, len(l) <= 400 && len(l) == int(b[0])*256+int(b[1])
}

// P8.3: a pool shares no memory with the bytes that it was decoded from.
func TestDecodeSharing(t *testing.T) {
	l := []api.Card{wisp(), jolt(), well()}
	b := bytesOf(t, l)
	one, _ := pool.Decode(b)
	two, _ := pool.Decode(b)
	clear(b)
	spoil(one.Cards())
	holds(t, one, l)
	holds(t, two, l)
}
