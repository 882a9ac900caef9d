package audit_test

import (
	"fmt"
	"math/big"
	"slices"
	"testing"

	"wharfinger/api"
	"wharfinger/audit"
)

// holdSum holds what orders ask for, and that they are as they were.
func holdSum(t *testing.T, what any, l []api.Order, want string) {
	t.Helper()
	was := fmt.Sprint(l)
	goods, money := audit.Sum(l)
	if got := rowText(goods) + "; " + rowText(money); got != want {
		t.Errorf("%v: Sum tells %q; want %q", what, got, want)
	}
	if now := fmt.Sprint(l); now != was {
		t.Errorf("%v: behind Sum the orders are %s; they were %s", what, now, was)
	}
}

// P26.2: of none, of one, of several.
func TestSum(t *testing.T) {
	a, b, c := asks(1, 0, 2, 0, 3), asks(2, 0, 5, 0, 7), asks(3, 7, 4, 7, 6)
	for i, x := range []struct {
		l    []api.Order
		want string
	}{
		{nil, "; "},
		{[]api.Order{}, "; "},
		{[]api.Order{a}, "2; 3"},
		{[]api.Order{b}, "5; 7"},
		{[]api.Order{a, b}, "7; 10"},
		{[]api.Order{b, a}, "7; 10"},
		{[]api.Order{a, a}, "4; 6"},
		{[]api.Order{a, a, a, b}, "11; 16"},
		{[]api.Order{c}, "0 0 0 0 0 0 0 4; 0 0 0 0 0 0 0 6"},
		{[]api.Order{a, c, b}, "7 0 0 0 0 0 0 4; 10 0 0 0 0 0 0 6"},
		{[]api.Order{asks(1, 2, 9, 5, 8), asks(1, 5, 3, 2, 1)}, "0 0 9 0 0 3; 0 0 1 0 0 8"},
		{[]api.Order{asks(999, 3, 1, 4, 1), asks(1, 3, 1, 5, 1), asks(1, 4, 1, 4, 1)}, "0 0 0 2 1; 0 0 0 0 2 1"},
		{[]api.Order{sized(1, 0), sized(2, 1), sized(3, 2), sized(4, 3)}, "0 8; 120"},
	} {
		holdSum(t, i, x.l, x.want)
	}
}

// P26.2: each item, each client by its own number.
func TestSumOfEach(t *testing.T) {
	var l []api.Order
	for i := range 8 {
		l = append(l, asks(999-i, i, 1+i, 7-i, 10+i))
		goods, money := audit.Sum(l[i:])
		for k := range 8 {
			if k == i && (goods[k] != 1+i || money[7-k] != 10+i) || k != i && goods[k]+money[7-k] != 0 {
				t.Errorf("of item %d: %v, %v", i, goods, money)
			}
		}
	}
	holdSum(t, "each", l, "1 2 3 4 5 6 7 8; 17 16 15 14 13 12 11 10")
}

// P26.2: just below MaxAmount, at it, beyond it by one and by far.
func TestSumMost(t *testing.T) {
	for i, x := range []struct{ a, b, want int }{
		{most - 1, 0, most - 1}, {most - 2, 1, most - 1}, {most, 0, most}, {most - 1, 1, most}, {1, most - 1, most}, {most - 1, 2, most}, {2, most - 1, most},
		{most, 1, most}, {1, most, most}, {most, most, most}, {most / 2, most / 2, most}, {most / 2, most/2 + 1, most}, {most / 2, most/2 - 1, most - 1},
	} {
		goods, money := []api.Order{asks(1, 6, x.a, 2, 1)}, []api.Order{asks(1, 6, 1, 2, x.a)}
		wantGoods, wantMoney := fmt.Sprint("0 0 0 0 0 0 ", x.want, "; 0 0 1"), fmt.Sprint("0 0 0 0 0 0 1; 0 0 ", x.want)
		if x.b > 0 {
			goods, money = append(goods, asks(2, 6, x.b, 2, 1)), append(money, asks(2, 6, 1, 2, x.b))
			wantGoods, wantMoney = fmt.Sprint("0 0 0 0 0 0 ", x.want, "; 0 0 2"), fmt.Sprint("0 0 0 0 0 0 2; 0 0 ", x.want)
		}
		holdSum(t, i, goods, wantGoods)
		holdSum(t, i, money, wantMoney)
	}
	far := slices.Repeat([]api.Order{asks(5, 3, most, 4, most)}, 3000)
	holdSum(t, "far", far, "0 0 0 1000000000; 0 0 0 0 1000000000")
	holdSum(t, "far, then others", append(far, asks(6, 3, 1, 4, 1), asks(6, 2, 1, 5, 2)), "0 0 1 1000000000; 0 0 0 0 1000000000 2")
}

// wrongs are orders that may not be.
func wrongs() []api.Order {
	var l []api.Order
	for _, id := range noIds {
		l = append(l, asks(id, 0, 1, 0, 1))
	}
	for _, n := range []int{-1 << 63, -1 << 32, -8, -1, 8, 9, 1 << 32, 1<<63 - 1} {
		l = append(l, asks(1, n, 1, 0, 1), asks(1, 0, 1, n, 1), asks(1, n, 1, n, 1))
	}
	for _, n := range []int{-1 << 63, -1 << 32, -1, 0, most + 1, 1 << 32, 1<<63 - 1} {
		l = append(l, asks(1, 0, n, 0, 1), asks(1, 0, 1, 0, n), asks(1, 0, n, 0, n))
	}
	for _, steps := range [][]api.Step{
		{{Service: 3, N: 1}}, {{Service: 7, N: 1}}, {{Service: 0, N: 1}}, {{Service: 4, N: 0}}, {{Service: 4, N: -1}}, {{Service: 4, N: most + 1}},
		{{Service: 4, N: 1}, {Service: 4, N: 1}}, {{Service: 4, N: 1}, {Service: 5, N: 1}, {Service: 4, N: 1}},
		{{Service: 4, N: 1}, {Service: 5, N: 1}, {Service: 6, N: 1}, {Service: 4, N: 1}},
	} {
		o := asks(1, 0, 1, 0, 1)
		o.Steps = steps
		l = append(l, o)
	}
	return append(l, api.Order{}, sized(7, 4))
}

// P26.2: an order that may not be says nothing, alone, and among others.
func TestSumOfWrong(t *testing.T) {
	for _, o := range wrongs() {
		holdSum(t, o, []api.Order{o}, "; ")
		holdSum(t, o, []api.Order{o, o, o}, "; ")
		holdSum(t, o, []api.Order{o, asks(1, 0, 2, 1, 3)}, "2; 0 3")
		holdSum(t, o, []api.Order{asks(1, 0, 2, 1, 3), o}, "2; 0 3")
		holdSum(t, o, []api.Order{asks(1, 0, 2, 1, 3), o, asks(1, 0, 2, 0, 3)}, "4; 3 3")
	}
	holdSum(t, "all", append(wrongs(), asks(7, 7, 7, 7, 7)), "0 0 0 0 0 0 0 7; 0 0 0 0 0 0 0 7")
}

// R2: what lies behind the list's length is not read.
func TestSumBehind(t *testing.T) {
	l := []api.Order{asks(1, 0, 1, 0, 1), asks(2, 0, 1, 0, 1), asks(3, 1, 9, 1, 9)}
	holdSum(t, "of two", l[:2], "2; 2")
	holdSum(t, "of none", l[:0], "; ")
	if fmt.Sprint(l) != fmt.Sprint([]api.Order{asks(1, 0, 1, 0, 1), asks(2, 0, 1, 0, 1), asks(3, 1, 9, 1, 9)}) {
		t.Errorf("they are changed: %v", l)
	}
}

// P26.2: long rows of orders, some of which may not be, held against exact sums.
func TestSumOfLong(t *testing.T) {
	wrong := wrongs()
	for seed := range 1000 {
		d, size := draws(seed+40), []int{5, 1000, most / 10, most}[seed%4]
		var goods, money [8]big.Int
		var l []api.Order
		for range d.next(60) {
			if d.next(5) == 0 {
				l = append(l, wrong[d.next(len(wrong))])
				continue
			}
			o := asks(1+d.next(999), d.next(8), 1+d.next(size), d.next(8), 1+d.next(size))
			goods[o.Item].Add(&goods[o.Item], big.NewInt(int64(o.Qty)))
			money[o.Client].Add(&money[o.Client], big.NewInt(int64(o.Price)))
			l = append(l, o)
		}
		holdSum(t, seed, l, rowText(cut(&goods))+"; "+rowText(cut(&money)))
	}
}

// cut is exact sums, those above the greatest amount cut to that.
func cut(sums *[8]big.Int) [8]int {
	var l [8]int
	for i := range l {
		l[i] = most
		if sums[i].Cmp(big.NewInt(most)) < 0 {
			l[i] = int(sums[i].Int64())
		}
	}
	return l
}
