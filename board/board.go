// Package board: players, zones and objects as plain data (layer 15).
package board

import "zeitnot/api"

// The limits of boards.
const (
	MaxItems   = 200 // of the stack, and of the queue
	MaxTurn    = 1000
	MaxActions = 255
)

// New returns a board with the cards of two decks as libraries, from the bottom to the top, or an error.
func New(life int, decks [2][]int) (api.Board, api.Errno) { return api.Board{}, 0 }

// Valid reports whether a board is valid.
func Valid(b api.Board) bool { return false }

// Equal reports whether two boards are equal.
func Equal(a, b api.Board) bool { return false }

// Copy returns a board that shares no memory.
func Copy(b api.Board) api.Board { return api.Board{} }

// Find returns the object with an id, or an error.
func Find(b api.Board, id int) (api.Object, api.Errno) { return api.Object{}, 0 }

// Set returns a board with an object in the place of the one with its id, or an error.
func Set(b api.Board, o api.Object) (api.Board, api.Errno) { return api.Board{}, 0 }

// Where returns where an object is, or an error.
func Where(b api.Board, id int) (api.Spot, api.Errno) { return api.Spot{}, 0 }

// Move returns a board in which an object is the last one of a zone of its owner, or an error.
func Move(b api.Board, id int, z api.Zone) (api.Board, api.Errno) { return api.Board{}, 0 }

// Draw returns a board in which a player has drawn cards, or an error.
func Draw(b api.Board, player, n int) (api.Board, api.Errno) { return api.Board{}, 0 }

// Token returns a board with a token on the battlefield, and its id (0: there was no room), or an error.
func Token(b api.Board, player, power, toughness, most int) (api.Board, int, api.Errno) {
	return api.Board{}, 0, 0
}

// Remove returns a board without an object, or an error.
func Remove(b api.Board, id int) (api.Board, api.Errno) { return api.Board{}, 0 }

// Creatures returns the creatures of a player on the battlefield, by their ids.
func Creatures(cards []api.Card, b api.Board, player int) []int { return nil }

// Encode returns the bytes of a board, or an error.
func Encode(b api.Board) ([]byte, api.Errno) { return nil, 0 }

// Decode returns the board with some bytes, or an error.
func Decode(p []byte) (api.Board, api.Errno) { return api.Board{}, 0 }
