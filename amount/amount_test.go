package amount_test

import (
	"math"
	"math/big"
	"slices"
	"testing"

	"wharfinger/amount"
	"wharfinger/api"
)

const most = api.MaxAmount

// root is the greatest number whose square is an amount.
const root = 31622

// fine are amounts at and around the edges.
var fine = []int{0, 1, 2, 3, 7, 63, 64, 65, 1000, root, root + 1, most/2 - 1, most / 2, most/2 + 1, most - 1, most}

// wrong are numbers that are no amounts; some of them would go round in a sum
// or a product.
var wrong = []int{-1, -2, -most, most + 1, 2 * most, math.MinInt, math.MinInt + 1, math.MaxInt, math.MaxInt - most, 1 << 32, -1 << 32, 1 << 62}

// P1.1: an amount is 0 to MaxAmount.
func TestMay(t *testing.T) {
	for _, a := range fine {
		if !amount.May(a) {
			t.Errorf("May(%d) says no", a)
		}
	}
	for _, a := range wrong {
		if amount.May(a) {
			t.Errorf("May(%d) says yes", a)
		}
	}
}

type pair struct {
	a, b int
	want int
	e    api.Errno
}

func tryPairs(t *testing.T, name string, call func(a, b int) (int, api.Errno), pairs []pair) {
	t.Helper()
	for _, p := range pairs {
		if got, e := call(p.a, p.b); got != p.want || e != p.e {
			t.Errorf("%s(%d, %d) = %d, %d; want %d, %d", name, p.a, p.b, got, e, p.want, p.e)
		}
	}
}

// P1.1: sums.
func TestAdd(t *testing.T) {
	tryPairs(t, "Add", amount.Add, []pair{
		{5, 3, 8, api.OK},
		{0, 0, 0, api.OK},
		{most, 0, most, api.OK},
		{0, most, most, api.OK},
		{most - 1, 1, most, api.OK},
		{most / 2, most / 2, most, api.OK},
		{most, 1, 0, api.ErrOver},
		{1, most, 0, api.ErrOver},
		{most/2 + 1, most / 2, 0, api.ErrOver},
		{most, most, 0, api.ErrOver},
	})
}

// P1.1: differences.
func TestSub(t *testing.T) {
	tryPairs(t, "Sub", amount.Sub, []pair{
		{5, 3, 2, api.OK},
		{5, 5, 0, api.OK},
		{0, 0, 0, api.OK},
		{most, 0, most, api.OK},
		{most, most, 0, api.OK},
		{most, 1, most - 1, api.OK},
		{3, 5, 0, api.ErrLess},
		{0, 1, 0, api.ErrLess},
		{0, most, 0, api.ErrLess},
		{most - 1, most, 0, api.ErrLess},
	})
}

// P1.1: products.
func TestMul(t *testing.T) {
	tryPairs(t, "Mul", amount.Mul, []pair{
		{5, 3, 15, api.OK},
		{0, 0, 0, api.OK},
		{0, most, 0, api.OK},
		{most, 0, 0, api.OK},
		{most, 1, most, api.OK},
		{1, most, most, api.OK},
		{most / 2, 2, most, api.OK},
		{2, most / 2, most, api.OK},
		{root, root, root * root, api.OK},
		{root, root + 1, root * (root + 1), api.OK},
		{root + 1, root + 1, 0, api.ErrOver},
		{most/2 + 1, 2, 0, api.ErrOver},
		{2, most/2 + 1, 0, api.ErrOver},
		{333333333, 3, 999999999, api.OK},
		{333333334, 3, 0, api.ErrOver},
		{most, 2, 0, api.ErrOver},
		{most, most, 0, api.ErrOver},
	})
}

// P1.1: one that may not be is told ahead of all else, on either side.
func TestPairsWrong(t *testing.T) {
	calls := map[string]func(a, b int) (int, api.Errno){"Add": amount.Add, "Sub": amount.Sub, "Mul": amount.Mul}
	for name, call := range calls {
		for _, bad := range wrong {
			for _, other := range append(slices.Clone(fine), wrong...) {
				tryPairs(t, name, call, []pair{{bad, other, 0, api.ErrArg}, {other, bad, 0, api.ErrArg}})
			}
		}
	}
}

// bounded tells what a call should answer whose exact outcome is n.
func bounded(n *big.Int, below api.Errno) (int, api.Errno) {
	if n.Sign() < 0 {
		return 0, below
	}
	if n.Cmp(big.NewInt(most)) > 0 {
		return 0, api.ErrOver
	}
	return int(n.Int64()), api.OK
}

// P1.1: on all amounts around the edges the answers are those of exact numbers.
func TestPairsExact(t *testing.T) {
	for _, a := range fine {
		for _, b := range fine {
			x, y := big.NewInt(int64(a)), big.NewInt(int64(b))
			n, e := bounded(new(big.Int).Add(x, y), api.OK)
			tryPairs(t, "Add", amount.Add, []pair{{a, b, n, e}})
			n, e = bounded(new(big.Int).Sub(x, y), api.ErrLess)
			tryPairs(t, "Sub", amount.Sub, []pair{{a, b, n, e}})
			n, e = bounded(new(big.Int).Mul(x, y), api.OK)
			tryPairs(t, "Mul", amount.Mul, []pair{{a, b, n, e}})
		}
	}
}

type share struct {
	a, n, of int
	want     int
	e        api.Errno
}

func tryShares(t *testing.T, shares []share) {
	t.Helper()
	for _, s := range shares {
		if got, e := amount.Part(s.a, s.n, s.of); got != s.want || e != s.e {
			t.Errorf("Part(%d, %d, %d) = %d, %d; want %d, %d", s.a, s.n, s.of, got, e, s.want, s.e)
		}
	}
}

// P1.1: parts, rounded down behind the product.
func TestPart(t *testing.T) {
	tryShares(t, []share{
		{10, 1, 3, 3, api.OK},
		{10, 2, 3, 6, api.OK},
		{11, 2, 3, 7, api.OK},
		{10, 3, 3, 10, api.OK},
		{10, 0, 3, 0, api.OK},
		{0, 2, 3, 0, api.OK},
		{1, 1, 2, 0, api.OK},
		{5, 1, 1, 5, api.OK},
		{5, 0, 1, 0, api.OK},
		{most, most, most, most, api.OK},
		{most, most - 1, most, most - 1, api.OK},
		{most - 1, most - 1, most, most - 2, api.OK},
		{most, 1, most, 1, api.OK},
		{1, most - 1, most, 0, api.OK},
		{7, 0, 0, 0, api.ErrArg},
		{0, 0, 0, 0, api.ErrArg},
		{7, 4, 3, 0, api.ErrArg},
		{0, 4, 3, 0, api.ErrArg},
		{7, most, most - 1, 0, api.ErrArg},
		{7, -1, -1, 0, api.ErrArg},
		{7, most + 1, most + 1, 0, api.ErrArg},
	})
	for _, bad := range wrong {
		tryShares(t, []share{
			{bad, 1, 3, 0, api.ErrArg},
			{7, bad, most, 0, api.ErrArg},
			{7, 0, bad, 0, api.ErrArg},
			{bad, bad, bad, 0, api.ErrArg},
		})
	}
}

// P1.1: on all amounts around the edges Part is what exact numbers say.
func TestPartExact(t *testing.T) {
	for _, a := range fine {
		for _, n := range fine {
			for _, of := range fine {
				if of == 0 || n > of {
					tryShares(t, []share{{a, n, of, 0, api.ErrArg}})
					continue
				}
				exact := new(big.Int).Mul(big.NewInt(int64(a)), big.NewInt(int64(n)))
				exact.Div(exact, big.NewInt(int64(of)))
				tryShares(t, []share{{a, n, of, int(exact.Int64()), api.OK}})
			}
		}
	}
}

// P1.2: the parts themselves.
func TestSplit(t *testing.T) {
	for _, x := range []struct {
		a, n int
		want []int
	}{
		{7, 3, []int{3, 2, 2}},
		{8, 3, []int{3, 3, 2}},
		{6, 3, []int{2, 2, 2}},
		{0, 1, []int{0}},
		{0, 3, []int{0, 0, 0}},
		{2, 4, []int{1, 1, 0, 0}},
		{5, 1, []int{5}},
		{most, 1, []int{most}},
		{most, 3, []int{333333334, 333333333, 333333333}},
	} {
		if got := amount.Split(x.a, x.n); !slices.Equal(got, x.want) {
			t.Errorf("Split(%d, %d) = %v; want %v", x.a, x.n, got, x.want)
		}
	}
}

// P1.2: for each n there are n parts, falling, at most 1 apart, and a in all.
func TestSplitEach(t *testing.T) {
	for _, a := range fine {
		for n := 1; n <= 64; n++ {
			l := amount.Split(a, n)
			if len(l) != n {
				t.Fatalf("Split(%d, %d) has %d parts", a, n, len(l))
			}
			sum := 0
			for i, part := range l {
				sum += part
				if part < 0 || i > 0 && part > l[i-1] {
					t.Errorf("Split(%d, %d) = %v: part %d", a, n, l, i)
				}
			}
			if sum != a || l[0]-l[n-1] > 1 {
				t.Errorf("Split(%d, %d) = %v", a, n, l)
			}
		}
	}
}

// P1.2: nothing comes of what can't be split.
func TestSplitWrong(t *testing.T) {
	for _, n := range []int{0, 65, -1, -64, most, math.MinInt, math.MaxInt} {
		for _, a := range []int{0, 7, most, -1, most + 1} {
			if got := amount.Split(a, n); len(got) != 0 {
				t.Errorf("Split(%d, %d) has %d parts", a, n, len(got))
			}
		}
	}
	for _, a := range wrong {
		for _, n := range []int{1, 3, 64} {
			if got := amount.Split(a, n); len(got) != 0 {
				t.Errorf("Split(%d, %d) = %v", a, n, got)
			}
		}
	}
}

// R2: what Split tells is the caller's own.
func TestSplitOwn(t *testing.T) {
	first := amount.Split(7, 3)
	for i := range first {
		first[i] = -1
	}
	if second := amount.Split(7, 3); !slices.Equal(second, []int{3, 2, 2}) {
		t.Error(second)
	}
}

// P1.2: sums of rows; the first fault on the way is the one that is told.
func TestSum(t *testing.T) {
	for _, x := range []struct {
		l    []int
		want int
		e    api.Errno
	}{
		{nil, 0, api.OK},
		{[]int{}, 0, api.OK},
		{[]int{0}, 0, api.OK},
		{[]int{most}, most, api.OK},
		{[]int{1, 2, 3}, 6, api.OK},
		{[]int{most, 0, 0}, most, api.OK},
		{[]int{0, most - 1, 1}, most, api.OK},
		{[]int{most, 1}, 0, api.ErrOver},
		{[]int{1, most}, 0, api.ErrOver},
		{[]int{most, most, most}, 0, api.ErrOver},
		{[]int{most / 2, most / 2, 1}, 0, api.ErrOver},
		{[]int{-1}, 0, api.ErrArg},
		{[]int{most + 1}, 0, api.ErrArg},
		{[]int{5, -1}, 0, api.ErrArg},
		{[]int{-1, 5}, 0, api.ErrArg},
		{[]int{most, 1, -1}, 0, api.ErrOver},
		{[]int{-1, most, 1}, 0, api.ErrArg},
		{[]int{most, -1, 1}, 0, api.ErrArg},
		{[]int{most, most + 1}, 0, api.ErrArg},
		{[]int{1, math.MaxInt}, 0, api.ErrArg},
		{[]int{math.MinInt, 1}, 0, api.ErrArg},
	} {
		if got, e := amount.Sum(x.l); got != x.want || e != x.e {
			t.Errorf("Sum(%v) = %d, %d; want %d, %d", x.l, got, e, x.want, x.e)
		}
	}
}

// R2: Sum keeps its hands off the list, and off what lies behind its length.
func TestSumLeavesList(t *testing.T) {
	whole := []int{1, 2, 3, -1}
	if got, e := amount.Sum(whole[:3]); got != 6 || e != api.OK {
		t.Error(got, e)
	}
	if !slices.Equal(whole, []int{1, 2, 3, -1}) {
		t.Error(whole)
	}
}

// P1.3: Sub undoes Add.
func TestSubUndoesAdd(t *testing.T) {
	for _, a := range fine {
		for _, b := range fine {
			sum, e := amount.Add(a, b)
			if e != api.OK {
				continue
			}
			if got, e := amount.Sub(sum, b); got != a || e != api.OK {
				t.Errorf("Sub(%d, %d) = %d, %d; want %d", sum, b, got, e, a)
			}
		}
	}
}

// P1.3: Part and what is left of it is the whole.
func TestPartAndRest(t *testing.T) {
	for _, a := range fine {
		for _, n := range fine {
			for _, of := range fine {
				part, e := amount.Part(a, n, of)
				if e != api.OK {
					continue
				}
				rest, e := amount.Sub(a, part)
				if e != api.OK {
					t.Fatalf("Part(%d, %d, %d) = %d: what is left: %d", a, n, of, part, e)
				}
				if whole, e := amount.Add(part, rest); whole != a || e != api.OK {
					t.Errorf("%d and %d: %d, %d; want %d", part, rest, whole, e, a)
				}
			}
		}
	}
}

// P1.3: what is Split is Summed.
func TestSplitIsSummed(t *testing.T) {
	for _, a := range fine {
		for n := 1; n <= 64; n++ {
			if got, e := amount.Sum(amount.Split(a, n)); got != a || e != api.OK {
				t.Errorf("Sum(Split(%d, %d)) = %d, %d", a, n, got, e)
			}
		}
	}
}
