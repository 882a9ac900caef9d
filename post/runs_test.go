package post_test

import (
	"fmt"
	"slices"
	"testing"

	"wharfinger/api"
	"wharfinger/post"
)

// letter is one that was put, and whether it is still on its way.
type letter struct {
	m    api.Msg
	gone bool
}

// plain is a post that keeps all that was ever put, and goes through it at each
// call.
type plain struct {
	most, lost int
	all        []letter
}

// places are where in all those stand that are on their way.
func (p *plain) places() []int {
	var l []int
	for at, x := range p.all {
		if !x.gone {
			l = append(l, at)
		}
	}
	return l
}

func (p *plain) way() []api.Msg {
	var l []api.Msg
	for _, at := range p.places() {
		l = append(l, p.all[at].m)
	}
	return l
}

func (p *plain) put(l ...api.Msg) {
	for _, m := range l {
		p.all = append(p.all, letter{m: m})
		if on := p.places(); len(on) > p.most {
			p.all[on[0]].gone = true
			p.lost++
		}
	}
}

func (p *plain) take(i int) (api.Msg, bool) {
	on := p.places()
	if i < 0 || i >= len(on) {
		return api.Msg{}, false
	}
	p.all[on[i]].gone = true
	return p.all[on[i]].m, true
}

func (p *plain) double(i int) bool {
	on := p.places()
	if i < 0 || i >= len(on) {
		return false
	}
	p.put(p.all[on[i]].m)
	return true
}

// pair is a post and a plain one that are treated alike.
type pair struct {
	p    *post.Post
	want plain
	next int // the number of the next message that is put
}

func newPair(most int) *pair {
	return &pair{p: post.New(most), want: plain{most: most}}
}

func (x *pair) put(n int) {
	l := run(x.next, x.next+n)
	x.next += n
	x.p.Put(l...)
	x.want.put(l...)
}

func (x *pair) take(t *testing.T, i int) {
	t.Helper()
	m, ok := x.want.take(i)
	holdTake(t, x.next, x.p, i, m, ok)
}

func (x *pair) double(t *testing.T, i int) {
	t.Helper()
	holdDouble(t, x.next, x.p, i, x.want.double(i))
}

// steps are things that may be done to both, with their names (Put: of how many).
func steps() ([]string, []func(*testing.T, *pair)) {
	var names []string
	var dos []func(*testing.T, *pair)
	add := func(name string, n int, do func(*testing.T, *pair)) {
		names = append(names, fmt.Sprintf("%s(%d)", name, n))
		dos = append(dos, do)
	}
	for _, n := range []int{0, 1, 3} {
		add("Put", n, func(_ *testing.T, x *pair) { x.put(n) })
	}
	for i := -1; i <= 2; i++ {
		add("Take", i, func(t *testing.T, x *pair) { x.take(t, i) })
		add("Double", i, func(t *testing.T, x *pair) { x.double(t, i) })
	}
	return names, dos
}

// P17.1: every run of five steps, held against a plain post, for each of
// some mosts.
func TestAllRuns(t *testing.T) {
	const length = 5
	names, dos := steps()
	runs := 1
	for range length {
		runs *= len(dos)
	}
	for most := 1; most <= 4; most++ {
		for n := range runs {
			x := newPair(most)
			var did [length]int
			for i, rest := 0, n; i < length; i, rest = i+1, rest/len(dos) {
				did[i] = rest % len(dos)
				dos[did[i]](t, x)
			}
			holdPost(t, did, x.p, x.want.way(), x.want.lost)
			if t.Failed() {
				for _, k := range did {
					t.Log(names[k])
				}
				t.Fatalf("most %d", most)
			}
		}
	}
}

// P17.1: long runs, of few places and of many, held against a plain post.
func TestLongRuns(t *testing.T) {
	for seed, most := range []int{1, 2, 3, 7, 20, 100, 256} {
		x := newPair(most)
		next := seed
		for range 1500 {
			next = (next*1103515245 + 12345) % (1 << 31)
			n := next >> 8
			i := n/8%(most+2) - 1
			switch n % 8 {
			case 0, 1, 2:
				x.take(t, i)
			case 3, 4:
				x.double(t, i)
			default:
				x.put(n / 8 % 4)
			}
			holdPost(t, seed, x.p, x.want.way(), x.want.lost)
			if t.Failed() {
				t.FailNow()
			}
		}
		if x.want.lost == 0 && most < 20 {
			t.Errorf("most %d: nothing was lost", most)
		}
	}
}

// count is how often each message came, or was put, or doubled.
type count map[api.Msg]int

// P17.2: where there is room for all, nothing comes that was not put, and what
// was put comes once, and once more for each Double, in whatever order it is
// taken.
func TestComesAsOftenAsPut(t *testing.T) {
	for seed := range 50 {
		p := post.New(api.MaxPost)
		due, came := count{}, count{}
		next := seed
		draw := func(n int) int {
			next = (next*1103515245 + 12345) % (1 << 31)
			return (next >> 8) % n
		}
		number := 0
		for range 400 {
			switch draw(3) {
			case 0:
				l := run(number, number+draw(3))
				number += len(l)
				p.Put(l...)
				for _, m := range l {
					due[m]++
				}
			case 1:
				i := draw(p.Len() + 2)
				for k, m := range p.All() {
					if k == i {
						due[m]++
					}
				}
				p.Double(i)
			default:
				if m, ok := p.Take(draw(p.Len() + 2)); ok {
					came[m]++
				}
			}
			if p.Lost() > 0 {
				t.Fatalf("seed %d: there was no room", seed)
			}
		}
		for p.Len() > 0 {
			m, ok := p.Take(draw(p.Len()))
			if !ok {
				t.Fatalf("seed %d: none of %d", seed, p.Len())
			}
			came[m]++
		}
		holdCounts(t, seed, came, due)
	}
}

func holdCounts(t *testing.T, what any, came, due count) {
	t.Helper()
	if len(due) == 0 {
		t.Errorf("%v: nothing was put", what)
	}
	for m, n := range came {
		if n != due[m] {
			t.Errorf("%v: %v came %d times; want %d", what, m, n, due[m])
		}
	}
	for m, n := range due {
		if came[m] != n {
			t.Errorf("%v: %v came %d times of %d", what, m, came[m], n)
		}
	}
}

// P17.2: where there is no room for all, each that was put or doubled has come,
// is on its way, or is counted as lost; none came more often than it was due.
func TestComesOrIsLost(t *testing.T) {
	for most := 1; most <= 9; most++ {
		p := post.New(most)
		due, came := count{}, count{}
		sum, took := 0, 0
		for n := range 500 {
			p.Put(msgs(n, n+1000)...)
			due[msg(n)]++
			due[msg(n+1000)]++
			sum += 2
			for i, m := range p.All() {
				if i == n%most {
					due[m]++
				}
			}
			if p.Double(n % most) {
				sum++
			}
			if m, ok := p.Take(n % 3); ok {
				came[m]++
				took++
			}
			if took+p.Len()+p.Lost() != sum {
				t.Fatalf("most %d: %d came, %d are on their way, %d lost, of %d", most, took, p.Len(), p.Lost(), sum)
			}
		}
		if p.Lost() == 0 {
			t.Errorf("most %d: nothing was lost", most)
		}
		for m, n := range came {
			if n > due[m] {
				t.Errorf("most %d: %v came %d times of %d", most, m, n, due[m])
			}
		}
	}
}

// P17.1: what is taken from the first place comes in the order in which it was
// put, however putting and taking are mixed.
func TestInOrder(t *testing.T) {
	p := post.New(8)
	var put, came []api.Msg
	for n := range 200 {
		l := run(3*n, 3*n+n%3)
		put = append(put, l...)
		p.Put(l...)
		for range n % 4 {
			if m, ok := p.Take(0); ok {
				came = append(came, m)
			}
		}
	}
	for p.Len() > 0 {
		m, _ := p.Take(0)
		came = append(came, m)
	}
	if p.Lost() != 0 || !slices.Equal(came, put) {
		t.Errorf("%d came, %d lost, of %d", len(came), p.Lost(), len(put))
	}
}

// R6: two posts that are treated alike tell alike.
func TestSameAgain(t *testing.T) {
	tell := func() string {
		p := filled(5, run(0, 8)...)
		p.Double(1)
		m, ok := p.Take(2)
		s := fmt.Sprint(m, ok, p.Len(), p.Lost())
		for i, m := range p.All() {
			s += fmt.Sprint(i, m)
		}
		return s
	}
	if a, b := tell(), tell(); a != b {
		t.Errorf("%s; then %s", a, b)
	}
}
