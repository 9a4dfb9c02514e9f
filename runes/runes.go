// Package runes: names as runes (layer 10).
package runes

import "zeitnot/api"

// The limits of names.
const (
	MaxRunes   = 24  // of a name
	MaxColumns = 200 // into which a string is fitted
)

// Valid reports whether a string is a name.
func Valid(s string) bool { return false }

// Fold returns a string with small letters, and with letters instead of those with marks.
func Fold(s string) string { return "" }

// Key returns the search key of a name, or an error.
func Key(s string) (string, api.Errno) { return "", 0 }

// Width returns how many columns a string takes.
func Width(s string) int { return 0 }

// Fit returns a string that takes just some columns, cut off or filled up, or an error.
func Fit(s string, columns int) (string, api.Errno) { return "", 0 }

// Compare returns whether a name is before another one (-1), after it (1), or neither (0).
func Compare(a, b string) int { return 0 }

// Starts reports whether the search key of a name begins with that of another string.
func Starts(name, s string) bool { return false }
