package bell_test

import (
	"fmt"
	"math"
	"slices"
	"testing"

	"wharfinger/api"
	"wharfinger/bell"
)

const maxTries = 20

// noIds are no ids; some of them end in the bits of one.
var noIds = []int{0, -1, -2, -5, -999, -1000, 1000, 1001, 1005, api.MaxAmount, 1 << 32, 1<<32 + 1, 1<<32 + 5, 1<<32 + 999, -1 << 32, -1<<32 + 5, math.MinInt, math.MinInt + 1, math.MinInt + 5, math.MaxInt}

// ring is what Ring tells.
type ring struct{ rings, often bool }

var (
	none    = ring{false, false}
	rang    = ring{true, false}
	tooMany = ring{true, true}
)

func holdRing(t *testing.T, what any, b *bell.Tower, id int, want ring) {
	t.Helper()
	if rings, often := b.Ring(id); rings != want.rings || often != want.often {
		t.Errorf("%v: Ring(%d) tells %t, %t; want %t, %t", what, id, rings, often, want.rings, want.often)
	}
}

func holdTrue(t *testing.T, what any, got bool) {
	t.Helper()
	if !got {
		t.Errorf("%v tells false; want true", what)
	}
}

func holdFalse(t *testing.T, what any, got bool) {
	t.Helper()
	if got {
		t.Errorf("%v tells true; want false", what)
	}
}

// holdIds holds whose bells hang against who is wanted (rising).
func holdIds(t *testing.T, what any, b *bell.Tower, want ...int) {
	t.Helper()
	if got := slices.Collect(b.Ids()); !slices.Equal(got, want) {
		t.Errorf("%v: ids %v; want %v", what, got, want)
	}
}

// holdLeft rings id's bell till it is too often: so many tries were left, not
// one less, not one more; and none is left behind that.
func holdLeft(t *testing.T, what any, b *bell.Tower, id, want int) {
	t.Helper()
	for i := range want + 1 {
		due := ring{true, i == want}
		if does, often := b.Ring(id); does != due.rings || often != due.often {
			t.Errorf("%v: behind %d rings of %d Ring(%d) tells %t, %t", what, i, want, id, does, often)
		}
	}
}

// holdNone holds that id has no bell.
func holdNone(t *testing.T, what any, b *bell.Tower, id int) {
	t.Helper()
	if b.Cut(id) || b.Again(id) {
		t.Errorf("%v: %d has a bell", what, id)
	}
	holdRing(t, what, b, id, none)
}

// hung is a tower with these bells.
func hung(t *testing.T, tries int, ids ...int) *bell.Tower {
	t.Helper()
	b := bell.New(tries)
	for _, id := range ids {
		holdTrue(t, fmt.Sprintf("Hang(%d)", id), b.Hang(id))
	}
	return b
}

// P18.1: the chapter's example.
func TestExample(t *testing.T) {
	b := bell.New(1)
	holdTrue(t, "Hang(5)", b.Hang(5))
	holdRing(t, "the first", b, 5, rang)
	holdRing(t, "the second", b, 5, tooMany)
}

// P18.1: a new tower has no bells, whatever its tries.
func TestNew(t *testing.T) {
	for _, tries := range append([]int{1, 2, 19, 20, 21}, noIds...) {
		b := bell.New(tries)
		if b == nil {
			t.Fatalf("New(%d) is nil", tries)
		}
		holdIds(t, tries, b)
		for id := 1; id <= api.MaxId; id++ {
			holdNone(t, tries, b, id)
		}
		holdIds(t, tries, b)
	}
}

// P18.1: so many tries as New was told; less than 1 and more than 20 are cut
// to that. However often it is rung then, it rings, and is too often.
func TestTries(t *testing.T) {
	cases := map[int]int{
		0: 1, -1: 1, -20: 1, -1 << 32: 1, -1<<32 + 5: 1, math.MinInt: 1, math.MinInt + 5: 1,
		21: 20, 22: 20, 40: 20, 1000: 20, 1 << 32: 20, 1<<32 + 5: 20, math.MaxInt: 20,
	}
	for tries := 1; tries <= maxTries; tries++ {
		cases[tries] = tries
	}
	for tries, want := range cases {
		what := fmt.Sprintf("tries %d", tries)
		b := hung(t, tries, 7)
		holdLeft(t, what, b, 7, want)
		for range 1000 {
			holdRing(t, what+", many times more", b, 7, tooMany)
		}
		holdTrue(t, what+": Again", b.Again(7))
		holdLeft(t, what+" again", b, 7, want)
		holdTrue(t, what+": Cut", b.Cut(7))
		holdTrue(t, what+": Hang", b.Hang(7))
		holdLeft(t, what+" hung anew", b, 7, want)
	}
}

// P18.1: one, some and many bells, in whatever order they are hung.
func TestHang(t *testing.T) {
	many := make([]int, api.MaxId)
	for i := range many {
		many[i] = 377 * (i + 1) % 1000 // neither rising nor falling
	}
	for _, ids := range [][]int{{1}, {5}, {999}, {1, 999}, {999, 1}, {2, 1, 3}, {500, 7, 998, 1, 6}, many} {
		b := bell.New(2)
		var want []int
		for _, id := range ids {
			holdNone(t, "not hung yet", b, id)
			holdTrue(t, fmt.Sprintf("Hang(%d)", id), b.Hang(id))
			at, _ := slices.BinarySearch(want, id)
			want = slices.Insert(want, at, id)
			holdIds(t, id, b, want...)
		}
		for _, id := range ids {
			holdLeft(t, len(ids), b, id, 2)
		}
		holdIds(t, "rung", b, want...)
	}
}

// P18.1: what is no id gets no bell, whatever hangs already.
func TestHangNoId(t *testing.T) {
	for _, ids := range [][]int{nil, {5}, {1, 5, 999}} {
		b := hung(t, 2, ids...)
		for _, id := range noIds {
			what := fmt.Sprintf("%v hang, Hang(%d)", ids, id)
			holdFalse(t, what, b.Hang(id))
			holdNone(t, what, b, id)
			holdIds(t, what, b, ids...)
		}
		for _, id := range ids {
			holdLeft(t, "behind wrong ids", b, id, 2)
		}
	}
}

// P18.1: who has a bell gets no other one, be all its tries left, some or none;
// so many are left behind it as ahead of it.
func TestHangTwice(t *testing.T) {
	const tries = 3
	for _, id := range []int{1, 5, 999} {
		for rung := range tries + 3 {
			b := hung(t, tries, id)
			for range rung {
				b.Ring(id)
			}
			for range 3 {
				holdFalse(t, fmt.Sprintf("rung %d times: Hang(%d)", rung, id), b.Hang(id))
			}
			holdIds(t, rung, b, id)
			holdLeft(t, rung, b, id, max(tries-rung, 0))
		}
	}
}

// P18.1: the bell that is cut is gone, at each place; the others stay as they
// were.
func TestCut(t *testing.T) {
	ids := []int{1, 2, 7, 500, 999}
	for i, id := range ids {
		b := hung(t, 3, 500, 7, 1, 999, 2)
		for n, other := range ids {
			for range n % 4 {
				b.Ring(other)
			}
		}
		left := slices.Delete(slices.Clone(ids), i, i+1)
		holdTrue(t, fmt.Sprintf("Cut(%d)", id), b.Cut(id))
		holdIds(t, id, b, left...)
		holdNone(t, "cut", b, id)
		holdIds(t, id, b, left...)
		for n, other := range ids {
			if other != id {
				holdLeft(t, fmt.Sprintf("Cut(%d)", id), b, other, 3-n%4)
			}
		}
	}
}

// P18.1: all are cut, one behind the other, in whatever order.
func TestCutAll(t *testing.T) {
	b := bell.New(1)
	for id := 1; id <= api.MaxId; id++ {
		holdTrue(t, fmt.Sprintf("Hang(%d)", id), b.Hang(id))
	}
	for i := 1; i <= api.MaxId; i++ {
		id := 891 * i % 1000
		holdTrue(t, fmt.Sprintf("Cut(%d)", id), b.Cut(id))
		holdNone(t, "cut", b, id)
		if n := len(slices.Collect(b.Ids())); n != api.MaxId-i {
			t.Fatalf("behind %d cuts %d bells hang", i, n)
		}
	}
	holdIds(t, "all cut", b)
}

// P18.1: who was cut may get a bell again, with all its tries, however many
// were left of the one that was cut.
func TestHangAnew(t *testing.T) {
	for tries := 1; tries <= maxTries; tries++ {
		for rung := range tries + 3 {
			what := fmt.Sprintf("tries %d, rung %d times", tries, rung)
			b := hung(t, tries, 5, 6)
			for range rung {
				b.Ring(5)
			}
			for range 2 {
				holdTrue(t, what+": Cut", b.Cut(5))
				holdIds(t, what, b, 6)
				holdTrue(t, what+": Hang", b.Hang(5))
				holdIds(t, what, b, 5, 6)
				holdLeft(t, what, b, 5, tries)
			}
			holdLeft(t, what+", the other", b, 6, tries)
		}
	}
}

// P18.1: each bell has tries of its own, in whatever order they are rung.
func TestRingSome(t *testing.T) {
	b := hung(t, 2, 999, 5, 1)
	for i, c := range []struct {
		id   int
		want ring
	}{
		{5, rang}, {999, rang}, {5, rang}, {5, tooMany}, {999, rang}, {1, rang},
		{999, tooMany}, {5, tooMany}, {1, rang}, {2, none}, {1, tooMany}, {999, tooMany},
	} {
		holdRing(t, i, b, c.id, c.want)
	}
	holdIds(t, "rung", b, 1, 5, 999)
}

// P18.1: all tries are back, not more than that, be all left, some or none,
// and however often it is asked; the others' are as they were.
func TestAgain(t *testing.T) {
	for tries := 1; tries <= maxTries; tries++ {
		for rung := range tries + 3 {
			for times := 1; times <= 3; times++ {
				what := fmt.Sprintf("tries %d, rung %d times, Again %d times", tries, rung, times)
				b := hung(t, tries, 5, 4, 6)
				b.Ring(6)
				for range rung {
					b.Ring(5)
				}
				for range times {
					holdTrue(t, what, b.Again(5))
				}
				holdIds(t, what, b, 4, 5, 6)
				holdLeft(t, what, b, 5, tries)
				holdLeft(t, what+", one that was not rung", b, 4, tries)
				holdLeft(t, what+", one that was", b, 6, tries-1)
			}
		}
	}
}

// P18.1: a bell that is given its tries back in time is never rung too often.
func TestAgainInTime(t *testing.T) {
	for _, tries := range []int{1, 2, 5, maxTries} {
		b := hung(t, tries, 9)
		for n := range 1000 {
			holdRing(t, n, b, 9, rang)
			if n%tries == tries-1 {
				holdTrue(t, n, b.Again(9))
			}
		}
		holdLeft(t, tries, b, 9, tries-1000%tries)
	}
}

// P18.1: Cut, Ring and Again of one that has no bell, be it an id or not: none,
// and nothing changes.
func TestNoBell(t *testing.T) {
	for _, ids := range [][]int{nil, {5}, {1, 5, 999}} {
		b := hung(t, 2, ids...)
		for _, id := range ids {
			b.Ring(id)
		}
		for _, id := range append([]int{1, 2, 4, 6, 500, 998, 999}, noIds...) {
			if slices.Contains(ids, id) {
				continue
			}
			for range 3 {
				holdNone(t, ids, b, id)
			}
			holdIds(t, id, b, ids...)
		}
		for _, id := range ids {
			holdLeft(t, ids, b, id, 1)
		}
	}
}

// P18.1: a bell rings at the ids' edges as it does elsewhere, and right beside
// them there is none.
func TestEdgeIds(t *testing.T) {
	for _, c := range []struct{ id, beside int }{{1, 0}, {api.MaxId, api.MaxId + 1}} {
		b := bell.New(2)
		holdFalse(t, c.beside, b.Hang(c.beside))
		holdTrue(t, c.id, b.Hang(c.id))
		holdFalse(t, c.beside, b.Hang(c.beside))
		holdNone(t, c.beside, b, c.beside)
		holdIds(t, c.id, b, c.id)
		holdLeft(t, c.id, b, c.id, 2)
		holdTrue(t, c.id, b.Again(c.id))
		holdLeft(t, c.id, b, c.id, 2)
		holdTrue(t, c.id, b.Cut(c.id))
		holdIds(t, c.id, b)
	}
}

// P18.1: Ids ends when the loop does, at each of its places, and may be gone
// over again.
func TestIdsEnd(t *testing.T) {
	want := []int{1, 3, 7, 500, 999}
	b := hung(t, 2, 500, 7, 999, 1, 3)
	seq := b.Ids()
	for last := range want {
		var got []int
		seq(func(id int) bool {
			got = append(got, id)
			return id != want[last]
		})
		if !slices.Equal(got, want[:last+1]) {
			t.Errorf("ended at %d: %v", want[last], got)
		}
		got = nil
		for id := range seq {
			got = append(got, id)
			if id == want[last] {
				break
			}
		}
		if !slices.Equal(got, want[:last+1]) {
			t.Errorf("left at %d: %v", want[last], got)
		}
	}
	if got := slices.Collect(seq); !slices.Equal(got, want) {
		t.Errorf("behind loops that ended: %v", got)
	}
	for _, id := range want {
		holdLeft(t, "behind loops", b, id, 2)
	}
}

// P18.1: loops inside one another do not disturb each other.
func TestIdsNested(t *testing.T) {
	b := hung(t, 1, 7, 1, 999)
	seq := b.Ids()
	var got []int
	for id := range seq {
		if inner := slices.Collect(seq); !slices.Equal(inner, []int{1, 7, 999}) {
			t.Errorf("inside, at %d: %v", id, inner)
		}
		got = append(got, id)
	}
	if !slices.Equal(got, []int{1, 7, 999}) {
		t.Errorf("around: %v", got)
	}
}

// P18.1: where no bell hangs the loop goes over nothing.
func TestIdsNone(t *testing.T) {
	allCut := hung(t, 1, 2, 1)
	holdTrue(t, "Cut(1)", allCut.Cut(1))
	holdTrue(t, "Cut(2)", allCut.Cut(2))
	refused := bell.New(1)
	holdFalse(t, "Hang(0)", refused.Hang(0))
	for what, b := range map[string]*bell.Tower{"new": bell.New(5), "all cut": allCut, "refused": refused, "nil": nil} {
		if b.Ids() == nil {
			t.Fatalf("%s: Ids is nil", what)
		}
		for id := range b.Ids() {
			t.Errorf("%s: %d", what, id)
		}
	}
}

// R2: a loop goes over those who had a bell when Ids was called; in it, and
// ahead of it, bells may be hung and cut.
func TestIdsWhileChanged(t *testing.T) {
	b := hung(t, 2, 7, 1, 999)
	ahead := b.Ids()
	var got []int
	for id := range b.Ids() {
		got = append(got, id)
		switch id {
		case 1:
			holdTrue(t, "Cut(1)", b.Cut(1))
			holdTrue(t, "Hang(2)", b.Hang(2))
			holdTrue(t, "Hang(998)", b.Hang(998))
		case 7:
			holdTrue(t, "Cut(999)", b.Cut(999))
			holdTrue(t, "Cut(7)", b.Cut(7))
		case 999:
			holdTrue(t, "Hang(1)", b.Hang(1))
			holdTrue(t, "Cut(2)", b.Cut(2))
		}
	}
	if !slices.Equal(got, []int{1, 7, 999}) {
		t.Errorf("changed in the loop: %v", got)
	}
	holdIds(t, "behind the loop", b, 1, 998)
	if got := slices.Collect(ahead); !slices.Equal(got, []int{1, 7, 999}) {
		t.Errorf("changed behind the call: %v", got)
	}
}

// P18.1: all bells may be cut, rung and given their tries back by a loop over
// them.
func TestIdsWhileUsed(t *testing.T) {
	b := hung(t, 1, 3, 999, 1, 2)
	for range 3 {
		for id := range b.Ids() {
			holdLeft(t, "in the loop", b, id, 1)
			holdTrue(t, "Again", b.Again(id))
		}
	}
	for id := range b.Ids() {
		holdTrue(t, id, b.Cut(id))
	}
	holdIds(t, "all cut", b)
}

// R3: nothing panics where no loop is there.
func TestIdsWithoutLoop(t *testing.T) {
	hung(t, 2, 1, 5).Ids()(nil)
	bell.New(2).Ids()(nil)
	var no *bell.Tower
	no.Ids()(nil)
}

// R2: towers keep to themselves.
func TestTowersApart(t *testing.T) {
	a, b := hung(t, 1, 5), hung(t, 3, 5, 6)
	holdLeft(t, "the one", a, 5, 1)
	holdRing(t, "the other", b, 5, rang)
	holdTrue(t, "Again in the one", a.Again(5))
	holdLeft(t, "the other", b, 5, 2)
	holdTrue(t, "Cut in the other", b.Cut(5))
	holdIds(t, "the one", a, 5)
	holdIds(t, "the other", b, 6)
	holdNone(t, "the one", a, 6)
	holdLeft(t, "the one", a, 5, 1)
	holdLeft(t, "the other", b, 6, 3)
}

// P18.1: a nil tower tells zero values.
func TestNil(t *testing.T) {
	var no *bell.Tower
	for _, id := range append([]int{1, 5, 998, 999}, noIds...) {
		holdFalse(t, fmt.Sprintf("nil: Hang(%d)", id), no.Hang(id))
		holdNone(t, "nil", no, id)
	}
	holdIds(t, "nil", no)
	if no.Ids() == nil {
		t.Error("Ids of a nil tower tells no function")
	}
}

// R3: a tower that New did not make has bells without tries.
func TestZeroTower(t *testing.T) {
	var b bell.Tower
	holdIds(t, "zero", &b)
	holdNone(t, "zero", &b, 5)
	holdFalse(t, "zero: Hang(0)", b.Hang(0))
	holdTrue(t, "zero: Hang(5)", b.Hang(5))
	holdFalse(t, "zero: Hang(5)", b.Hang(5))
	holdIds(t, "zero", &b, 5)
	holdLeft(t, "zero", &b, 5, 0)
	holdTrue(t, "zero: Again(5)", b.Again(5))
	holdLeft(t, "zero", &b, 5, 0)
	holdTrue(t, "zero: Cut(5)", b.Cut(5))
	holdIds(t, "zero", &b)
}
