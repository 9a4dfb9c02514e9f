package sat_test

import (
	"math"
	"math/big"
	"slices"
	"testing"

	"zeitnot/api"
	"zeitnot/sat"
)

const (
	greatest = math.MaxInt
	least    = math.MinInt
)

// edges are the numbers around which sums, differences and products wrap or are clamped.
func edges() []int {
	root := 3037000499 // the greatest number whose square fits
	return []int{
		least, least + 1, -1<<62 - 1, -1 << 62, -1<<62 + 1, -1 << 32, -1 << 31, -root - 1, -root, -api.MaxLife, -api.MaxCounter, -3, -2, -1,
		0, 1, 2, 3, 20, api.MaxCounter - 1, api.MaxCounter, api.MaxCounter + 1, api.MaxLife, api.MaxLife + 1,
		1<<31 - 1, 1 << 31, root, root + 1, 1<<32 - 1, 1 << 32, 1<<62 - 1, 1 << 62, 1<<62 + 1, greatest - 1, greatest,
	}
}

func number(n int) *big.Int { return big.NewInt(int64(n)) }

// limit is a maximum as it counts: 0 if it is below 0.
func limit(most int) *big.Int {
	if most < 0 {
		return number(0)
	}
	return number(most)
}

func clamped(n *big.Int, most int) int {
	if n.Sign() < 0 {
		return 0
	}
	if top := limit(most); n.Cmp(top) > 0 {
		n = top
	}
	return int(n.Int64())
}

func exactSum(a, b int) *big.Int { return new(big.Int).Add(number(a), number(b)) }

// P1.1: the numbers of the chapter's examples, and those that are next to them.
func TestClamp(t *testing.T) {
	for _, c := range []struct{ n, most, want int }{
		{-3, 99, 0}, {-1, 99, 0}, {0, 99, 0}, {1, 99, 1}, {98, 99, 98}, {99, 99, 99}, {100, 99, 99},
		{5, 0, 0}, {5, -1, 0}, {-5, -1, 0}, {-5, -9, 0}, {0, least, 0}, {greatest, least, 0}, {least, least, 0},
		{greatest, greatest, greatest}, {greatest, greatest - 1, greatest - 1}, {least, greatest, 0}, {greatest, 9999, 9999},
	} {
		if got := sat.Clamp(c.n, c.most); got != c.want {
			t.Errorf("Clamp(%d, %d) = %d, want %d", c.n, c.most, got, c.want)
		}
	}
}

func TestAddSubTimes(t *testing.T) {
	for _, c := range []struct{ a, b, most, add, sub, times int }{
		{95, 10, 99, 99, 85, 99}, {3, 5, 99, 8, 0, 15}, {7, 20, 99, 27, 0, 99}, {-4, -5, 99, 0, 1, 20},
		{50, 49, 99, 99, 1, 99}, {50, 50, 99, 99, 0, 99}, {9, 11, 99, 20, 0, 99}, {33, 3, 99, 36, 30, 99},
		{5, -3, 99, 2, 8, 0}, {-3, 5, 99, 2, 0, 0}, {0, -7, 99, 0, 7, 0}, {7, 2, -1, 0, 0, 0}, {7, 2, 0, 0, 0, 0},
		{greatest, greatest, 9999, 9999, 0, 9999}, {greatest, 1, greatest, greatest, greatest - 1, greatest},
		{0, least, 9999, 0, 9999, 0}, {-1, least, greatest, 0, greatest, greatest}, {least, least, greatest, 0, 0, greatest},
		{least, -1, greatest, 0, 0, greatest}, {greatest, least, greatest, 0, greatest, 0}, {least, 1, greatest, 0, 0, 0},
		{1 << 32, 1 << 32, greatest, 1 << 33, 0, greatest}, {1 << 31, 1 << 31, greatest, 1 << 32, 0, 1 << 62},
		{-1 << 32, -1 << 31, greatest, 0, 0, greatest}, {-1 << 31, -1 << 31, greatest, 0, 0, 1 << 62},
	} {
		if got := sat.Add(c.a, c.b, c.most); got != c.add {
			t.Errorf("Add(%d, %d, %d) = %d, want %d", c.a, c.b, c.most, got, c.add)
		}
		if got := sat.Sub(c.a, c.b, c.most); got != c.sub {
			t.Errorf("Sub(%d, %d, %d) = %d, want %d", c.a, c.b, c.most, got, c.sub)
		}
		if got := sat.Times(c.a, c.b, c.most); got != c.times {
			t.Errorf("Times(%d, %d, %d) = %d, want %d", c.a, c.b, c.most, got, c.times)
		}
	}
}

// P1.1: all edges with each other, against integers of any size.
func TestExact(t *testing.T) {
	all := edges()
	for _, a := range all {
		for _, b := range all {
			sum := exactSum(a, b)
			difference := new(big.Int).Sub(number(a), number(b))
			product := new(big.Int).Mul(number(a), number(b))
			for _, most := range all {
				if got, want := sat.Clamp(a, most), clamped(number(a), most); got != want {
					t.Fatalf("Clamp(%d, %d) = %d, want %d", a, most, got, want)
				}
				if got, want := sat.Add(a, b, most), clamped(sum, most); got != want {
					t.Fatalf("Add(%d, %d, %d) = %d, want %d", a, b, most, got, want)
				}
				if got, want := sat.Sub(a, b, most), clamped(difference, most); got != want {
					t.Fatalf("Sub(%d, %d, %d) = %d, want %d", a, b, most, got, want)
				}
				if got, want := sat.Times(a, b, most), clamped(product, most); got != want {
					t.Fatalf("Times(%d, %d, %d) = %d, want %d", a, b, most, got, want)
				}
			}
		}
	}
}

// P1.2: what is dropped, with what is more than an int holds.
func TestDropped(t *testing.T) {
	for _, c := range []struct{ a, b, most, want int }{
		{95, 10, 99, 6}, {95, 5, 99, 1}, {95, 4, 99, 0}, {95, 3, 99, 0}, {0, 0, 0, 0}, {0, 1, 0, 1},
		{7, 2, -1, 9}, {7, 2, least, 9}, {-7, -2, -20, 0}, {200, -50, 99, 51}, {-50, 200, 99, 51}, {5, -9, 99, 0},
		{greatest, greatest, 0, greatest}, {greatest, greatest, -5, greatest}, {greatest, 1, 0, greatest}, {greatest, 0, 0, greatest},
		{greatest, greatest, greatest, greatest}, {greatest, greatest, greatest - 1, greatest}, {greatest, 1, greatest, 1},
		{greatest, greatest - 1, greatest, greatest - 1}, {greatest, 1, 1, greatest}, {greatest, 1, 2, greatest - 1},
		{least, least, 0, 0}, {least, least, least, 0}, {least, greatest, 0, 0}, {least, -1, 0, 0},
	} {
		if got := sat.Dropped(c.a, c.b, c.most); got != c.want {
			t.Errorf("Dropped(%d, %d, %d) = %d, want %d", c.a, c.b, c.most, got, c.want)
		}
	}
	all := edges()
	for _, a := range all {
		for _, b := range all {
			for _, most := range all {
				above := exactSum(a, b)
				want := clamped(above.Sub(above, limit(most)), greatest)
				if got := sat.Dropped(a, b, most); got != want {
					t.Fatalf("Dropped(%d, %d, %d) = %d, want %d", a, b, most, got, want)
				}
			}
		}
	}
}

// P1.3: a sum is clamped after each number, not only at its end.
func TestSum(t *testing.T) {
	for _, c := range []struct {
		l    []int
		most int
		want int
	}{
		{nil, 99, 0}, {[]int{}, 99, 0}, {[]int{7}, 99, 7}, {[]int{-7}, 99, 0}, {[]int{100}, 99, 99},
		{[]int{60, 50, -9}, 99, 90}, {[]int{-9, 60, 50}, 99, 99}, {[]int{5, -9, 3}, 99, 3}, {[]int{1, 2, 3, 4}, 99, 10},
		{[]int{5, 5}, 0, 0}, {[]int{5, 5}, -1, 0}, {[]int{5, -5, 5}, least, 0}, {nil, least, 0},
		{[]int{greatest, greatest, -1}, greatest, greatest - 1}, {[]int{least, least, 4}, greatest, 4},
		{[]int{greatest, least, 3}, greatest, 3}, {[]int{greatest, greatest, greatest}, 9999, 9999},
	} {
		before := slices.Clone(c.l)
		if got := sat.Sum(c.l, c.most); got != c.want {
			t.Errorf("Sum(%d, %d) = %d, want %d", c.l, c.most, got, c.want)
		}
		if !slices.Equal(c.l, before) {
			t.Errorf("Sum has changed its list %d to %d", before, c.l)
		}
	}
	all := edges()
	for _, a := range all {
		for _, b := range all {
			for _, c := range all {
				for _, most := range []int{least, -1, 0, 1, api.MaxMana, api.MaxLife, greatest - 1, greatest} {
					want := 0
					for _, n := range []int{a, b, c} {
						want = clamped(exactSum(want, n), most)
					}
					if got := sat.Sum([]int{a, b, c}, most); got != want {
						t.Fatalf("Sum(%d %d %d, %d) = %d, want %d", a, b, c, most, got, want)
					}
				}
			}
		}
	}
}

// P1.4 (P0.4): every result is from 0 to the maximum, whatever is asked.
func TestResultsAreWithinTheMaximum(t *testing.T) {
	all := edges()
	for _, a := range all {
		for _, b := range all {
			for _, most := range all {
				top := max(0, most)
				for i, got := range []int{sat.Clamp(a, most), sat.Add(a, b, most), sat.Sub(a, b, most), sat.Times(a, b, most), sat.Sum([]int{a, b, a}, most)} {
					if got < 0 || got > top {
						t.Fatalf("result %d of %d, %d and the maximum %d is %d", i, a, b, most, got)
					}
				}
				if got := sat.Dropped(a, b, most); got < 0 {
					t.Fatalf("Dropped(%d, %d, %d) = %d", a, b, most, got)
				}
			}
		}
	}
}

// P1.4: what is added and what is dropped are together the sum, if it is not below 0 and fits.
func TestNothingIsLost(t *testing.T) {
	all := edges()
	fits := 0
	for _, a := range all {
		for _, b := range all {
			sum := exactSum(a, b)
			if sum.Sign() < 0 || !sum.IsInt64() {
				continue
			}
			fits++
			for _, most := range all {
				if got := exactSum(sat.Add(a, b, most), sat.Dropped(a, b, most)); got.Cmp(sum) != 0 {
					t.Fatalf("%d and %d with the maximum %d are %v together, want %v", a, b, most, got, sum)
				}
			}
		}
	}
	if fits == 0 {
		t.Error("no sum was looked at")
	}
}

// P1.4: Add does not depend on the order of its numbers, but Sum may.
func TestOrder(t *testing.T) {
	all := edges()
	for _, a := range all {
		for _, b := range all {
			for _, most := range all {
				if x, y := sat.Add(a, b, most), sat.Add(b, a, most); x != y {
					t.Fatalf("Add(%d, %d, %d) = %d, but %d the other way round", a, b, most, x, y)
				}
			}
		}
	}
	if x, y := sat.Sum([]int{60, 50, -9}, 99), sat.Sum([]int{-9, 60, 50}, 99); x == y {
		t.Errorf("Sum is %d in both orders", x)
	}
}
