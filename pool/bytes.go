package pool

import (
	"bytes"

	"zeitnot/api"
	"zeitnot/card"
)

// The parts of a pool's bytes around those of its cards: how many bytes each of them has.
const (
	numberSize = 2
	sumSize    = 4
)

// The numbers that a check sum is found with.
const (
	sumStart  = 17
	sumFactor = 31
)

// Encode returns the bytes of a pool, or an error.
func (p *Pool) Encode() ([]byte, api.Errno) {
	if p.zero() {
		return nil, api.ErrNil
	}
	b := []byte{byte(len(p.cards) >> 8), byte(len(p.cards))}
	for _, c := range p.cards {
		part, _ := card.Encode(c) // all cards of a pool are valid
		b = append(b, part...)
	}
	return append(b, sumBytes(b)...), api.OK
}

// Decode returns the pool with bytes, or an error.
func Decode(b []byte) (*Pool, api.Errno) {
	if len(b) < numberSize+sumSize {
		return nil, api.ErrShort
	}
	others, last := b[:len(b)-sumSize], b[len(b)-sumSize:]
	if !bytes.Equal(last, sumBytes(others)) {
		return nil, api.ErrCheck
	}
	l, whole := decodeCards(others)
	if !whole {
		return nil, api.ErrFormat
	}
	p, e := New(l)
	if e != api.OK {
		return nil, api.ErrFormat
	}
	return p, api.OK
}

// Sum returns the check sum of bytes.
func Sum(b []byte) uint32 {
	n := uint32(sumStart)
	for _, x := range b {
		n = n*sumFactor + uint32(x)
	}
	return n
}

// sumBytes returns the check sum of bytes as bytes.
func sumBytes(b []byte) []byte {
	n := Sum(b)
	return []byte{byte(n >> 24), byte(n >> 16), byte(n >> 8), byte(n)}
}

// decodeCards returns the cards behind their number, and whether they are just what the bytes have.
func decodeCards(b []byte) ([]api.Card, bool) {
	l := []api.Card{}
	rest := b[numberSize:]
	for range int(b[0])<<8 | int(b[1]) {
		c, size, e := card.Decode(rest)
		if e != api.OK {
			return nil, false
		}
		l = append(l, c)
		rest = rest[size:]
	}
	return l, len(rest) == 0
}
