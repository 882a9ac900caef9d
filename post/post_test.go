package post_test

import (
	"fmt"
	"math"
	"slices"
	"testing"

	"wharfinger/api"
	"wharfinger/post"
)

const maxLost = 1000000

// farOff are places that no post has; some of them end in the bits of one.
var farOff = []int{-1, -2, -256, -257, 256, 257, api.MaxAmount, 1 << 32, 1<<32 + 1, -1 << 32, math.MinInt, math.MinInt + 1, math.MaxInt}

// msg is a message whose fields are all other ones, and no other message's.
func msg(n int) api.Msg {
	return api.Msg{Kind: 1 + n%18, From: n % 7, To: (n + 3) % 7, Id: 1 + n%999, Step: n % 3, A: 1000 + n, B: -n}
}

// msgs are the messages of these numbers.
func msgs(numbers ...int) []api.Msg {
	var l []api.Msg
	for _, n := range numbers {
		l = append(l, msg(n))
	}
	return l
}

// run are the messages from one number on, up to another one that is left out.
func run(from, to int) []api.Msg {
	var l []api.Msg
	for n := from; n < to; n++ {
		l = append(l, msg(n))
	}
	return l
}

// holdPost holds all that is to be seen of a post against what is on its way,
// and how many were lost.
func holdPost(t *testing.T, what any, p *post.Post, want []api.Msg, lost int) {
	t.Helper()
	n := 0
	for i, m := range p.All() {
		if i != n || i >= len(want) || m != want[i] {
			t.Errorf("%v: behind %d others comes %d, %v; want of %v", what, n, i, m, want)
			return
		}
		n++
	}
	if n != len(want) || p.Len() != len(want) || p.Lost() != lost {
		t.Errorf("%v: All goes over %d, Len is %d, Lost %d; want %d, %d lost", what, n, p.Len(), p.Lost(), len(want), lost)
	}
}

func holdTake(t *testing.T, what any, p *post.Post, i int, want api.Msg, wantOk bool) {
	t.Helper()
	if m, ok := p.Take(i); m != want || ok != wantOk {
		t.Errorf("%v: Take(%d) tells %v, %t; want %v, %t", what, i, m, ok, want, wantOk)
	}
}

func holdDouble(t *testing.T, what any, p *post.Post, i int, want bool) {
	t.Helper()
	if ok := p.Double(i); ok != want {
		t.Errorf("%v: Double(%d) tells %t; want %t", what, i, ok, want)
	}
}

// filled is a post with these on their way.
func filled(most int, l ...api.Msg) *post.Post {
	p := post.New(most)
	p.Put(l...)
	return p
}

// P17.1: the example of the chapter.
func TestExample(t *testing.T) {
	p := filled(1, msgs(1, 2)...)
	if p.Len() != 1 || p.Lost() != 1 {
		t.Errorf("Len, Lost: %d, %d; want 1, 1", p.Len(), p.Lost())
	}
	holdPost(t, "the example", p, msgs(2), 1)
}

// P17.1: a new post is empty, whatever its most.
func TestNew(t *testing.T) {
	for _, most := range append([]int{0, 1, 2, 255}, farOff...) {
		p := post.New(most)
		if p == nil {
			t.Fatalf("New(%d) is nil", most)
		}
		holdPost(t, most, p, nil, 0)
		holdTake(t, most, p, 0, api.Msg{}, false)
		holdDouble(t, most, p, 0, false)
		holdPost(t, most, p, nil, 0)
	}
}

// P17.1: how many there is room for: just as many, one more, many more, put at
// once and one by one.
func TestMost(t *testing.T) {
	for most, room := range map[int]int{
		1: 1, 2: 2, 3: 3, 100: 100, 255: 255, 256: 256,
		0: 1, -1: 1, -256: 1, math.MinInt: 1, math.MinInt + 1: 1, -1<<32 + 5: 1,
		257: 256, 258: 256, 1000: 256, 1<<32 + 5: 256, 1 << 32: 256, math.MaxInt: 256,
	} {
		for _, n := range []int{room - 1, room, room + 1, room + 2, 2 * room, 2*room + 1, 3000} {
			l := run(0, n)
			gone := max(n-room, 0)
			what := fmt.Sprintf("most %d, %d put", most, n)
			holdPost(t, what, filled(most, l...), l[gone:], gone)
			single := post.New(most)
			for _, m := range l {
				single.Put(m)
			}
			holdPost(t, what+" one by one", single, l[gone:], gone)
			parts := post.New(most)
			for part := range slices.Chunk(l, 7) {
				parts.Put(part...)
			}
			holdPost(t, what+" by sevens", parts, l[gone:], gone)
		}
	}
}

// P17.1: each that is put comes last, behind those of the same Put and of others.
func TestPut(t *testing.T) {
	p := post.New(10)
	p.Put(msg(5))
	holdPost(t, "one", p, msgs(5), 0)
	p.Put(msgs(3, 9, 1)...)
	holdPost(t, "some", p, msgs(5, 3, 9, 1), 0)
	p.Put(msg(9))
	holdPost(t, "one that is on its way", p, msgs(5, 3, 9, 1, 9), 0)
	p.Put(msgs(9, 9, 5)...)
	holdPost(t, "again", p, msgs(5, 3, 9, 1, 9, 9, 9, 5), 0)
	p.Put(msgs(2, 4, 6, 8)...)
	holdPost(t, "two too many", p, msgs(9, 1, 9, 9, 9, 5, 2, 4, 6, 8), 2)
}

// P17.1: Put of none changes nothing.
func TestPutNone(t *testing.T) {
	for _, n := range []int{0, 1, 3, 4, 9} {
		p := filled(4, run(0, n)...)
		gone := max(n-4, 0)
		p.Put()
		p.Put(nil...)
		p.Put([]api.Msg{}...)
		p.Put(run(0, 5)[:0]...)
		holdPost(t, n, p, run(gone, n), gone)
	}
}

// P17.1: it is not asked what stands in a message: all of it comes as it was put.
func TestAnyMessage(t *testing.T) {
	l := []api.Msg{{}}
	for _, n := range []int{-1, 1, 1 << 32, math.MinInt, math.MaxInt} {
		l = append(l, api.Msg{Kind: n}, api.Msg{From: n}, api.Msg{To: n}, api.Msg{Id: n}, api.Msg{Step: n}, api.Msg{A: n}, api.Msg{B: n})
		l = append(l, api.Msg{Kind: n, From: n, To: n, Id: n, Step: n, A: n, B: n})
	}
	p := filled(100, l...)
	holdPost(t, "put", p, l, 0)
	for i := range l {
		holdDouble(t, l[i], p, i, true)
	}
	holdPost(t, "doubled", p, append(slices.Clone(l), l...), 0)
	for range 2 {
		for _, m := range l {
			holdTake(t, "taken", p, 0, m, true)
		}
	}
	holdPost(t, "all taken", p, nil, 0)
}

// P17.1: from each place, of few and of many, the one that stands there goes,
// and those behind it come one place further ahead.
func TestTake(t *testing.T) {
	for _, n := range []int{1, 2, 3, 4, 9, 255, 256} {
		for i := range n {
			what := fmt.Sprintf("%d of %d", i, n)
			p := filled(256, run(0, n)...)
			holdTake(t, what, p, i, msg(i), true)
			left := append(run(0, i), run(i+1, n)...)
			holdPost(t, what, p, left, 0)
			holdTake(t, what+", behind the last", p, n-1, api.Msg{}, false)
			p.Put(msg(n + 5))
			holdPost(t, what+", one more put", p, append(left, msg(n+5)), 0)
		}
	}
}

// P17.1: the first, a middle one and the last one, one behind the other, till
// none is left.
func TestTakeAll(t *testing.T) {
	p := filled(5, run(0, 5)...)
	for _, c := range []struct {
		i, n int
		left []api.Msg
	}{{0, 0, msgs(1, 2, 3, 4)}, {1, 2, msgs(1, 3, 4)}, {2, 4, msgs(1, 3)}, {1, 3, msgs(1)}, {0, 1, nil}} {
		holdTake(t, c.n, p, c.i, msg(c.n), true)
		holdPost(t, c.n, p, c.left, 0)
	}
	holdTake(t, "none left", p, 0, api.Msg{}, false)
	p.Put(run(10, 16)...)
	holdPost(t, "put again", p, run(11, 16), 1)
}

// P17.1: below the first place and behind the last one there is none; nothing
// changes.
func TestNoSuchPlace(t *testing.T) {
	for _, most := range []int{1, 2, 5, 256} {
		for _, n := range []int{0, 1, 2, 5, 256, 300} {
			p := filled(most, run(0, n)...)
			gone := max(n-most, 0)
			for _, i := range append([]int{n - gone, n - gone + 1, n - gone + 1<<32, gone - n - 1}, farOff...) {
				what := fmt.Sprintf("%d of %d, most %d", i, n, most)
				holdTake(t, what, p, i, api.Msg{}, false)
				holdDouble(t, what, p, i, false)
				if p.Len() != n-gone || p.Lost() != gone {
					t.Errorf("%s: Len, Lost: %d, %d", what, p.Len(), p.Lost())
				}
			}
			holdPost(t, n, p, run(gone, n), gone)
		}
	}
}

// P17.1: the ith is put once more, and stays where it is.
func TestDouble(t *testing.T) {
	for _, n := range []int{1, 2, 3, 9, 255} {
		for i := range n {
			what := fmt.Sprintf("%d of %d", i, n)
			p := filled(256, run(0, n)...)
			holdDouble(t, what, p, i, true)
			holdPost(t, what, p, append(run(0, n), msg(i)), 0)
			holdTake(t, what, p, i, msg(i), true)
			holdPost(t, what+" taken", p, append(append(run(0, i), run(i+1, n)...), msg(i)), 0)
			holdTake(t, what, p, n-1, msg(i), true)
			holdPost(t, what+" taken twice", p, append(run(0, i), run(i+1, n)...), 0)
			holdTake(t, what, p, n-1, api.Msg{}, false)
		}
	}
}

// P17.1: what is doubled may be doubled again, the one or the other of them.
func TestDoubleAgain(t *testing.T) {
	p := filled(9, msgs(1, 2)...)
	for _, i := range []int{0, 2, 0, 1} {
		holdDouble(t, i, p, i, true)
	}
	holdPost(t, "doubled", p, msgs(1, 2, 1, 1, 1, 2), 0)
}

// P17.1: where it is full the first one is lost for it, also if that is the one
// that is doubled.
func TestDoubleFull(t *testing.T) {
	for _, most := range []int{1, 2, 3, 256} {
		for i := range most {
			what := fmt.Sprintf("%d of most %d", i, most)
			p := filled(most, run(0, most)...)
			holdDouble(t, what, p, i, true)
			holdPost(t, what, p, append(run(1, most), msg(i)), 1)
			holdDouble(t, what, p, most-1, true)
			holdPost(t, what+", the last again", p, append(append(run(1, most), msg(i)), msg(i))[1:], 2)
		}
	}
}

// P17.1: messages are lost where there is no room alone; what is taken is not
// lost, and makes room.
func TestTakeMakesRoom(t *testing.T) {
	p := filled(3, run(0, 3)...)
	for n := 3; n < 1000; n++ {
		if m, ok := p.Take(n % 3); !ok || p.Len() != 2 {
			t.Fatalf("%d: %v, %t, Len is %d", n, m, ok, p.Len())
		}
		p.Put(msg(n))
		if p.Len() != 3 || p.Lost() != 0 {
			t.Fatalf("%d: Len, Lost: %d, %d", n, p.Len(), p.Lost())
		}
	}
	p.Put(msg(1000))
	if p.Len() != 3 || p.Lost() != 1 {
		t.Errorf("full: Len, Lost: %d, %d", p.Len(), p.Lost())
	}
}

// P17.1: Lost counts up to 1000000, whether they come one by one or many at
// once, and no further; all else goes on.
func TestLostAtMost(t *testing.T) {
	for _, most := range []int{1, 3} {
		p := filled(most, slices.Repeat(msgs(1), maxLost-2+most)...)
		for _, want := range []int{maxLost - 2, maxLost - 1, maxLost, maxLost, maxLost} {
			holdPost(t, want, p, slices.Repeat(msgs(1), most), want)
			p.Put(msg(1))
		}
		holdDouble(t, "at most", p, 0, true)
		p.Put(run(0, 5000)...)
		holdPost(t, "many more", p, run(5000-most, 5000), maxLost)
		over := filled(most, slices.Repeat(msgs(2), maxLost+1000)...)
		holdPost(t, "at once", over, slices.Repeat(msgs(2), most), maxLost)
		holdTake(t, "at once", over, most-1, msg(2), true)
		holdPost(t, "one taken", over, slices.Repeat(msgs(2), most-1), maxLost)
	}
}

// P17.1: All ends when the loop does, at each of its places, and may be gone
// over again.
func TestAllEnds(t *testing.T) {
	p := filled(5, run(0, 5)...)
	seq := p.All()
	for last := range 5 {
		calls := 0
		seq(func(i int, m api.Msg) bool {
			if i != calls || m != msg(i) {
				t.Errorf("ended at %d: %d, %v", last, i, m)
			}
			calls++
			return i != last
		})
		if calls != last+1 {
			t.Errorf("ended at %d, gone over %d times", last, calls)
		}
		var got []api.Msg
		for i, m := range seq {
			got = append(got, m)
			if i == last {
				break
			}
		}
		if !slices.Equal(got, run(0, last+1)) {
			t.Errorf("left at %d: %v", last, got)
		}
	}
	n := 0
	for i, m := range seq {
		if i != n || m != msg(n) {
			t.Errorf("behind loops that ended: %d, %v", i, m)
		}
		n++
	}
	if n != 5 {
		t.Errorf("behind loops that ended: %d", n)
	}
	holdPost(t, "behind loops", p, run(0, 5), 0)
}

// P17.1: where nothing is on its way All goes over nothing.
func TestAllOfNone(t *testing.T) {
	emptied := filled(2, run(0, 5)...)
	emptied.Take(1)
	emptied.Take(0)
	var none *post.Post
	for what, p := range map[string]*post.Post{"new": post.New(5), "all taken": emptied, "nil": none} {
		if p.All() == nil {
			t.Fatalf("%s: All is nil", what)
		}
		for i, m := range p.All() {
			t.Errorf("%s: %d, %v", what, i, m)
		}
	}
}

// P17.1: loops inside one another do not disturb each other.
func TestAllNested(t *testing.T) {
	p := filled(4, run(0, 4)...)
	seq := p.All()
	count := 0
	for i, m := range seq {
		for k, inner := range seq {
			if inner != msg(k) || m != msg(i) {
				t.Errorf("%d, %d: %v, %v", i, k, m, inner)
			}
			count++
		}
	}
	if count != 16 {
		t.Errorf("gone over %d times; want 16", count)
	}
}

// R2: a loop goes over what was on its way when All was called; in it, and
// ahead of it, the post may be changed.
func TestAllWhileChanged(t *testing.T) {
	p := filled(4, run(0, 4)...)
	ahead := p.All()
	changes := []func(){
		func() { p.Take(3) },
		func() { p.Put(run(20, 29)...) },
		func() { p.Double(1) },
		func() { p.Take(0) },
	}
	n := 0
	for i, m := range p.All() {
		if i != n || m != msg(n) {
			t.Fatalf("changed in the loop: behind %d others comes %d, %v", n, i, m)
		}
		n++
		changes[i]()
	}
	holdPost(t, "behind the loop", p, msgs(27, 28, 26), 9)
	for i, m := range ahead {
		if m != msg(i) {
			t.Errorf("changed behind the call: %d, %v", i, m)
		}
		n++
	}
	if n != 8 {
		t.Errorf("both loops went over %d; want 8", n)
	}
}

// R3: nothing panics where no loop is there.
func TestAllWithoutLoop(t *testing.T) {
	filled(4, run(0, 4)...).All()(nil)
	post.New(4).All()(nil)
	var none *post.Post
	none.All()(nil)
}

// R2: the row that is handed in is as it was, also behind its length, and is
// not kept.
func TestPutMemory(t *testing.T) {
	for _, most := range []int{1, 2, 3, 4, 256} {
		l := run(0, 10)
		p := post.New(most)
		p.Put(l[2:5:8]...)
		if !slices.Equal(l, run(0, 10)) {
			t.Errorf("most %d: Put left %v", most, l)
		}
		clear(l)
		gone := max(3-most, 0)
		holdPost(t, "the row spoilt", p, run(2+gone, 5), gone)
		p.Put(run(20, 30)...)
		p.Double(0)
		p.Take(0)
		p.Take(0)
		if !slices.Equal(l, make([]api.Msg, 10)) {
			t.Errorf("most %d: written into: %v", most, l)
		}
	}
}

// R2: what is told is the caller's own.
func TestToldMemory(t *testing.T) {
	p := filled(3, run(0, 3)...)
	for _, m := range p.All() {
		m.Id, m.Kind = -1, -1
	}
	holdDouble(t, "one", p, 0, true)
	m, _ := p.Take(2)
	m.Id = -1
	holdPost(t, "spoilt", p, msgs(1, 2), 1)
}

// R2: posts keep to themselves.
func TestPostsApart(t *testing.T) {
	l := run(0, 3)
	a, b := filled(2, l...), filled(9, l...)
	holdTake(t, "of one", a, 0, msg(1), true)
	holdDouble(t, "of the other", b, 2, true)
	holdPost(t, "one", a, msgs(2), 1)
	holdPost(t, "the other", b, msgs(0, 1, 2, 2), 0)
	a.Put(run(20, 25)...)
	holdPost(t, "one, later", a, msgs(23, 24), 5)
	holdPost(t, "the other, later", b, msgs(0, 1, 2, 2), 0)
}

// P17.1: a nil post tells zero values.
func TestNil(t *testing.T) {
	var none *post.Post
	for range 2 {
		none.Put()
		none.Put(run(0, 3)...)
		for _, i := range append([]int{0, 1, 2}, farOff...) {
			holdTake(t, "nil", none, i, api.Msg{}, false)
			holdDouble(t, "nil", none, i, false)
		}
		holdPost(t, "nil", none, nil, 0)
	}
}

// R3: a post that New did not make does not panic; it has room for nothing.
func TestZeroPost(t *testing.T) {
	var p post.Post
	holdPost(t, "zero", &p, nil, 0)
	p.Put(run(0, 3)...)
	holdPost(t, "put", &p, nil, 3)
	holdTake(t, "zero", &p, 0, api.Msg{}, false)
	holdDouble(t, "zero", &p, 0, false)
	holdPost(t, "at last", &p, nil, 3)
}

// R6: asking changes nothing.
func TestAsking(t *testing.T) {
	p := filled(4, run(0, 6)...)
	for range 3 {
		for range p.All() {
			p.Len()
			p.Lost()
		}
	}
	holdPost(t, "asked", p, run(2, 6), 2)
	p.Put(msg(6))
	holdPost(t, "behind that", p, run(3, 7), 3)
}
