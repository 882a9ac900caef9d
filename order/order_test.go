package order_test

import (
	"fmt"
	"math"
	"reflect"
	"regexp"
	"slices"
	"strconv"
	"strings"
	"testing"

	"wharfinger/api"
	"wharfinger/order"
)

const most = 1000000000

// asked is what the document says a text is, in a form that has nothing of the
// program in it, but for a service that is there twice.
var asked = regexp.MustCompile(`\A#([1-9][0-9]{0,2}): (` + above + `)x([0-7]) for (` + above + `) by ([0-7])((?:; [456]\*(?:` + above + `)){0,3})\z`)

const above = `[1-9][0-9]{0,8}|1000000000`

// wanted is the order that Parse has to tell of s, if there is one.
func wanted(s string) (api.Order, bool) {
	m := asked.FindStringSubmatch(s)
	if m == nil {
		return api.Order{}, false
	}
	number := func(digits string) int {
		n, _ := strconv.Atoi(digits)
		return n
	}
	o := api.Order{Id: number(m[1]), Qty: number(m[2]), Item: number(m[3]), Price: number(m[4]), Client: number(m[5])}
	seen := map[string]bool{}
	for _, step := range strings.Split(m[6], "; ")[1:] {
		service, n, _ := strings.Cut(step, "*")
		if seen[service] {
			return api.Order{}, false
		}
		seen[service] = true
		o.Steps = append(o.Steps, api.Step{Service: number(service), N: number(n)})
	}
	return o, true
}

// textOf is the text of o, written without the program's own Text.
func textOf(o api.Order) string {
	var b strings.Builder
	fmt.Fprintf(&b, "#%d: %dx%d for %d by %d", o.Id, o.Qty, o.Item, o.Price, o.Client)
	for _, step := range o.Steps {
		fmt.Fprintf(&b, "; %d*%d", step.Service, step.N)
	}
	return b.String()
}

// alike tells what Same has to, without it.
func alike(a, b api.Order) bool {
	equal := len(a.Steps) == len(b.Steps)
	for i := 0; equal && i < len(a.Steps); i++ {
		equal = a.Steps[i].Service == b.Steps[i].Service && a.Steps[i].N == b.Steps[i].N
	}
	return equal && [5]int{a.Id, a.Item, a.Qty, a.Client, a.Price} == [5]int{b.Id, b.Item, b.Qty, b.Client, b.Price}
}

func twin(o api.Order) api.Order {
	o.Steps = slices.Clone(o.Steps)
	return o
}

// holdParse holds what Parse tells of s against wanted.
func holdParse(t *testing.T, s string) {
	t.Helper()
	o, no := order.Parse(s)
	want, ok := wanted(s)
	switch {
	case !ok && (no != api.ErrForm || !reflect.DeepEqual(o, api.Order{})):
		t.Errorf("Parse(%.200q) = %v, %d; want nothing, ErrForm", s, o, no)
	case ok && (no != api.OK || !alike(o, want)):
		t.Errorf("Parse(%q) = %v, %d; want %v", s, o, no, want)
	case ok && (!order.May(o) || order.Text(o) != s):
		t.Errorf("Parse(%q) = %v: May %v, Text %q", s, o, order.May(o), order.Text(o))
	}
}

// steps are those of these services and numbers, by turns.
func steps(numbers ...int) []api.Step {
	var all []api.Step
	for i := 0; i < len(numbers); i += 2 {
		all = append(all, api.Step{Service: numbers[i], N: numbers[i+1]})
	}
	return all
}

// plain is an ordinary order with all steps that may be.
func plain() api.Order {
	return api.Order{Id: 7, Item: 2, Qty: 5, Client: 3, Price: 100, Steps: steps(4, 1, 6, 20, 5, 300)}
}

// rows are all rows of services without one twice, with no step up to three.
func rows() [][]int {
	all := [][]int{{}}
	for _, a := range []int{4, 5, 6} {
		all = append(all, []int{a})
		for _, b := range []int{4, 5, 6} {
			if b == a {
				continue
			}
			all = append(all, []int{a, b}, []int{a, b, 15 - a - b})
		}
	}
	return all
}

// good are orders that may be: each edge of each number with each row of
// services, and the steps' own numbers at their edges.
func good() []api.Order {
	var all []api.Order
	add := func(o api.Order) { all = append(all, twin(o)) }
	for _, row := range rows() {
		for _, n := range []int{1, 2, 10, 999999999, most} {
			o := plain()
			o.Steps = nil
			for i, service := range row {
				o.Steps = append(o.Steps, api.Step{Service: service, N: (n+i-1)%most + 1})
			}
			add(o)
			for _, edge := range []int{1, 9, 10, 99, 100, 998, 999} {
				changed := o
				changed.Id = edge
				add(changed)
			}
			for edge := range 8 {
				changed := o
				changed.Item = edge
				add(changed)
				changed = o
				changed.Client = edge
				add(changed)
			}
			for _, edge := range []int{1, 9, 10, 11, 101, 999999999, most} {
				changed := o
				changed.Qty = edge
				add(changed)
				changed = o
				changed.Price = edge
				add(changed)
			}
		}
	}
	for _, edges := range [][5]int{{1, 0, 1, 0, 1}, {999, 7, most, 7, most}, {1, 7, 1, 7, 1}, {999, 0, most, 0, most}} {
		o := api.Order{Id: edges[0], Item: edges[1], Qty: edges[2], Client: edges[3], Price: edges[4]}
		add(o)
		o.Steps = []api.Step{}
		add(o)
		o.Steps = steps(6, most, 5, 1, 4, most)
		add(o)
	}
	return all
}

// bad are orders that may not be, each for one cause, and some for several.
func bad() []api.Order {
	var all []api.Order
	add := func(change func(o *api.Order)) {
		o := plain()
		change(&o)
		all = append(all, o)
	}
	for _, n := range []int{0, -1, -7, -999, 1000, 1001, most, math.MinInt, math.MaxInt, 1 << 32, 1<<32 + 7} {
		add(func(o *api.Order) { o.Id = n })
	}
	for _, n := range []int{-1, -7, 8, 9, 10, most, math.MinInt, math.MaxInt, 1 << 32, 1 << 8} {
		add(func(o *api.Order) { o.Item = n })
		add(func(o *api.Order) { o.Client = n })
	}
	for _, n := range []int{0, -1, -most, most + 1, 2 * most, math.MinInt, math.MaxInt, 1 << 32, 1<<32 + 1} {
		add(func(o *api.Order) { o.Qty = n })
		add(func(o *api.Order) { o.Price = n })
		for place := range 3 {
			add(func(o *api.Order) { o.Steps[place].N = n })
			add(func(o *api.Order) { o.Steps = o.Steps[:place+1]; o.Steps[place].N = n })
		}
	}
	for _, n := range []int{3, 2, 1, 0, -1, -4, 7, 8, 10, 1<<32 + 4, math.MinInt, math.MaxInt} {
		for place := range 3 {
			add(func(o *api.Order) { o.Steps[place].Service = n })
			add(func(o *api.Order) { o.Steps = o.Steps[:place+1]; o.Steps[place].Service = n })
		}
	}
	for a := range 3 {
		for b := range 3 {
			if a != b {
				add(func(o *api.Order) { o.Steps[a].Service = o.Steps[b].Service })
				add(func(o *api.Order) { o.Steps[a] = o.Steps[b] })
			}
		}
	}
	for _, service := range []int{4, 5, 6, 7, 3} {
		add(func(o *api.Order) { o.Steps = append(o.Steps, api.Step{Service: service, N: 1}) })
		add(func(o *api.Order) { o.Steps = steps(service, 1, service, 2) })
	}
	add(func(o *api.Order) { o.Steps = make([]api.Step, 1) })
	add(func(o *api.Order) { o.Steps = make([]api.Step, 4) })
	add(func(o *api.Order) { o.Steps = make([]api.Step, 1<<16) })
	add(func(o *api.Order) { o.Steps = slices.Repeat(o.Steps, 1000) })
	return append(all, api.Order{}, api.Order{Id: 1}, api.Order{Id: 1, Qty: 1}, api.Order{Id: 1, Price: 1}, api.Order{Qty: 1, Price: 1})
}

// P5.1: orders at every edge may be.
func TestMay(t *testing.T) {
	for _, o := range good() {
		if !order.May(o) {
			t.Errorf("May(%v) says no", o)
		}
	}
	for _, empty := range [][]api.Step{nil, {}} {
		if !order.May(api.Order{Id: 1, Qty: 1, Price: 1, Steps: empty}) {
			t.Errorf("May of one with no step, nil: %v, says no", empty == nil)
		}
	}
}

// P5.1, P5.2: what is below or above what may be is not; nothing is its text.
func TestMayNot(t *testing.T) {
	for i, o := range bad() {
		if order.May(o) || order.Text(o) != "" {
			t.Errorf("%d: %.200s: May %v, Text %q", i, fmt.Sprint(o), order.May(o), order.Text(o))
		}
	}
}

// P5.1: every Id, Item, Client, Service near its bounds, and every number of
// steps.
func TestMayByNumber(t *testing.T) {
	for n := -1100; n <= 1100; n++ {
		for _, c := range []struct {
			what   string
			change func(o *api.Order)
			want   bool
		}{
			{"Id", func(o *api.Order) { o.Id = n }, n >= 1 && n <= 999},
			{"Item", func(o *api.Order) { o.Item = n }, n >= 0 && n <= 7},
			{"Client", func(o *api.Order) { o.Client = n }, n >= 0 && n <= 7},
			{"Qty", func(o *api.Order) { o.Qty = n }, n >= 1},
			{"Price", func(o *api.Order) { o.Price = n }, n >= 1},
			{"Qty, above", func(o *api.Order) { o.Qty = most + n }, n <= 0},
			{"Price, above", func(o *api.Order) { o.Price = most + n }, n <= 0},
			{"Service", func(o *api.Order) { o.Steps = steps(n, 1) }, n >= 4 && n <= 6},
			{"Service, last", func(o *api.Order) { o.Steps[2].Service = n }, n == 5},
			{"N", func(o *api.Order) { o.Steps[1].N = n }, n >= 1},
			{"N, above", func(o *api.Order) { o.Steps[1].N = most + n }, n <= 0},
		} {
			o := plain()
			c.change(&o)
			if got := order.May(o); got != c.want {
				t.Errorf("%s %d: May = %v", c.what, n, got)
			}
		}
	}
}

// P5.1: orders are the same when they are alike in all, whether they may be or
// not.
func TestSame(t *testing.T) {
	var all []api.Order
	for _, row := range [][]api.Step{
		nil, steps(4, 1), steps(4, 2), steps(5, 1), steps(4, 1, 5, 1), steps(5, 1, 4, 1), steps(4, 1, 5, 2), steps(4, 1, 5, 1, 6, 1), steps(4, 1, 5, 1, 6, 2),
		steps(0, 0), steps(4, 1, 4, 1), steps(1, 4), steps(4, 1, 5, 1, 6, 1, 0, 0), steps(math.MinInt, math.MaxInt),
	} {
		for which := range 5 {
			for _, n := range []int{0, 1, 7, -1, most, math.MaxInt, math.MinInt} {
				numbers := [5]int{2, 3, 4, 5, 6}
				numbers[which] = n
				all = append(all, api.Order{Id: numbers[0], Item: numbers[1], Qty: numbers[2], Client: numbers[3], Price: numbers[4], Steps: row})
			}
		}
	}
	for i, a := range all {
		for j, b := range all {
			if got := order.Same(a, twin(b)); got != (i == j) {
				t.Fatalf("Same(%v, %v) = %v", a, b, got)
			}
		}
	}
	none, empty := plain(), plain()
	none.Steps, empty.Steps = nil, []api.Step{}
	if !order.Same(none, empty) || !order.Same(empty, none) || !order.Same(none, none) || !order.Same(api.Order{}, api.Order{}) {
		t.Error("no steps, as nil and as an empty list, are not the same")
	}
}

// P5.1: the number of the step of a service, and -1 where there is none; of an
// order that may not be as well, and of several the first.
func TestAt(t *testing.T) {
	for _, row := range rows() {
		o := plain()
		o.Steps = nil
		for _, service := range row {
			o.Steps = append(o.Steps, api.Step{Service: service, N: service})
		}
		for _, service := range []int{4, 5, 6, 3, 7, 0, 1, 2, -1, 300, math.MinInt, math.MaxInt} {
			if got, want := order.At(o, service), slices.Index(row, service); got != want {
				t.Errorf("At(%v, %d) = %d; want %d", row, service, got, want)
			}
		}
	}
	for _, c := range []struct {
		steps         []api.Step
		service, want int
	}{
		{nil, 0, -1}, {[]api.Step{}, 4, -1}, {steps(0, 0), 0, 0},
		{steps(9, 1, 9, 2), 9, 0}, {steps(4, 1, 5, 1, 5, 1), 5, 1},
		{steps(4, 6, 5, 4), 6, -1},
		{steps(1, 1, 2, 1, 3, 1, 4, 1, 5, 1), 5, 4},
		{steps(math.MinInt, 1, math.MaxInt, 1), math.MaxInt, 1},
	} {
		if got := order.At(api.Order{Steps: c.steps}, c.service); got != c.want {
			t.Errorf("At(%v, %d) = %d; want %d", c.steps, c.service, got, c.want)
		}
	}
}

// P5.2: texts that the document, or a look at it, tells.
func TestTextByHand(t *testing.T) {
	for _, c := range []struct {
		o    api.Order
		want string
	}{
		{api.Order{Id: 7, Item: 2, Qty: 5, Client: 3, Price: 100, Steps: steps(4, 1)}, "#7: 5x2 for 100 by 3; 4*1"},
		{api.Order{Id: 1, Item: 0, Qty: 1, Client: 0, Price: 1}, "#1: 1x0 for 1 by 0"},
		{api.Order{Id: 1, Item: 0, Qty: 1, Client: 0, Price: 1, Steps: []api.Step{}}, "#1: 1x0 for 1 by 0"},
		{api.Order{Id: 999, Item: 7, Qty: most, Client: 6, Price: 999999999, Steps: steps(6, most, 5, 10, 4, 2)}, "#999: 1000000000x7 for 999999999 by 6; 6*1000000000; 5*10; 4*2"},
		{api.Order{Id: 10, Item: 1, Qty: 20, Client: 2, Price: 30, Steps: steps(5, 40, 4, 50)}, "#10: 20x1 for 30 by 2; 5*40; 4*50"},
	} {
		if got := order.Text(c.o); got != c.want {
			t.Errorf("Text(%v) = %q; want %q", c.o, got, c.want)
		}
		if got, no := order.Parse(c.want); no != api.OK || !alike(got, c.o) {
			t.Errorf("Parse(%q) = %v, %d; want %v", c.want, got, no, c.o)
		}
	}
}

// P5.2, P5.3: every order that may be has its text, and Parse of it is the
// order.
func TestTextAndBack(t *testing.T) {
	for _, o := range good() {
		s := order.Text(o)
		if s != textOf(o) {
			t.Errorf("Text(%v) = %q; want %q", o, s, textOf(o))
		}
		if back, no := order.Parse(s); no != api.OK || !alike(back, o) || !order.Same(back, o) || !order.Same(o, back) {
			t.Errorf("Parse(%q) = %v, %d; want %v", s, back, no, o)
		}
	}
}

// P5.3: two that may be have one text just if they are the same.
func TestOneTextEach(t *testing.T) {
	all := good()
	texts := make([]string, len(all))
	for i, o := range all {
		texts[i] = order.Text(o)
	}
	for i, a := range all {
		for j, b := range all {
			if same := order.Same(a, b); same != (texts[i] == texts[j]) {
				t.Fatalf("Same(%v, %v) = %v; texts %q, %q", a, b, same, texts[i], texts[j])
			}
		}
	}
}

// P5.2: the text of an order that may not be is none.
func TestParseMayNot(t *testing.T) {
	for _, o := range bad() {
		s := textOf(o)
		if back, no := order.Parse(s); no != api.ErrForm || !reflect.DeepEqual(back, api.Order{}) {
			t.Errorf("Parse(%.200q) = %v, %d; want ErrForm", s, back, no)
		}
	}
}

// P5.2: texts that are none.
func TestParseNoTexts(t *testing.T) {
	const head = "#7: 5x2 for 100 by 3"
	for _, s := range []string{
		"", " ", "#", "7", "#7", "#7:", "#7: ", "#7: 5", "#7: 5x", "#7: 5x2", "#7: 5x2 ", "#7: 5x2 for", "#7: 5x2 for ", "#7: 5x2 for 100", "#7: 5x2 for 100 by", "#7: 5x2 for 100 by ",
		"#07: 5x2 for 100 by 3", "#007: 5x2 for 100 by 3", "#7: 05x2 for 100 by 3", "#7: 5x02 for 100 by 3", "#7: 5x2 for 0100 by 3", "#7: 5x2 for 100 by 03", "#7: 5x00 for 100 by 3", "#7: 5x2 for 100 by 00",
		"#+7: 5x2 for 100 by 3", "#7: +5x2 for 100 by 3", "#7: 5x+2 for 100 by 3", "#7: 5x2 for +100 by 3", "#7: 5x2 for 100 by +3", "#7: 5x+0 for 100 by 3", "#7: 5x-0 for 100 by 3", "#7: 5x2 for 100 by -0",
		"#-7: 5x2 for 100 by 3", "#7: -5x2 for 100 by 3", "#7: 5x-2 for 100 by 3", "#7: 5x2 for -100 by 3", "#7: 5x2 for 100 by -3",
		"# 7: 5x2 for 100 by 3", "#7 : 5x2 for 100 by 3", "#7:5x2 for 100 by 3", "#7:  5x2 for 100 by 3", "#7: 5 x2 for 100 by 3", "#7: 5x 2 for 100 by 3", "#7: 5x2  for 100 by 3", "#7: 5x2for 100 by 3",
		"#7: 5x2 for100 by 3", "#7: 5x2 for  100 by 3", "#7: 5x2 for 100  by 3", "#7: 5x2 for 100by 3", "#7: 5x2 for 100 by3", "#7: 5x2 for 100 by  3", "#7: 5x2\tfor 100 by 3", "#7: 5x2 for 100 by\u00a03",
		"7: 5x2 for 100 by 3", "##7: 5x2 for 100 by 3", "#7 5x2 for 100 by 3", "#7:: 5x2 for 100 by 3", "#7: : 5x2 for 100 by 3", "#7: 52 for 100 by 3", "#7: 5xx2 for 100 by 3", "#7: 5X2 for 100 by 3", "#7: 5*2 for 100 by 3",
		"#7: 5x2 100 by 3", "#7: 5x2 for for 100 by 3", "#7: 5x2 For 100 by 3", "#7: 5x2 for 100 3", "#7: 5x2 for 100 by by 3", "#7: 5x2 by 100 for 3", "#7: 5x2 for 100 by", "#: 5x2 for 100 by 3", "#7: x2 for 100 by 3", "#7: 5x for 100 by 3", "#7: 5x2 for  by 3",
		" " + head, "x" + head, "\n" + head, "\ufeff" + head, head + " ", head + "\n", head + "x", head + "#", head + "\x00", head + ".", head + ",", head + head, "#" + head,
		head + ";", head + "; ", head + "; 4", head + "; 4*", head + "; *1", head + "; *", head + "; 4*1;", head + "; 4*1; ", head + "; 4*1 ", head + "; 4*1x", head + "; 4*1; 5", head + "; 4*1; 5*", head + "; 4*1; *5", head + "; 4*1; 5*1; 6*",
		head + ";4*1", head + ";  4*1", head + " ; 4*1", head + "; 4 *1", head + "; 4* 1", head + " 4*1", head + ", 4*1", head + ";; 4*1", head + "; ; 4*1", head + "; 4**1", head + "; 41", head + "; 4x1", head + "; 4*1*1", head + "; 4*1 5*1", head + "; 4*1;5*1",
		head + "; 04*1", head + "; 4*01", head + "; +4*1", head + "; 4*+1", head + "; -4*1", head + "; 4*-1", head + "; 4*0", head + "; 4*00", head + "; 3*1", head + "; 7*1", head + "; 0*1", head + "; 10*1", head + "; 4*1000000001",
		head + "; 4*1; 4*1", head + "; 4*1; 4*2", head + "; 4*1; 5*1; 4*1", head + "; 4*1; 5*1; 5*1", head + "; 4*1; 5*1; 6*1; 4*1", head + "; 4*1; 5*1; 6*1; 7*1", head + "; 4*1; 5*1; 6*1;", head + "; 4*1; 5*1; 6*1; ", head + "; 4*1; 5*1; 6*1 ",
		"#0: 5x2 for 100 by 3", "#1000: 5x2 for 100 by 3", "#7: 0x2 for 100 by 3", "#7: 1000000001x2 for 100 by 3", "#7: 5x8 for 100 by 3", "#7: 5x2 for 0 by 3", "#7: 5x2 for 1000000001 by 3", "#7: 5x2 for 100 by 8",
		"#7: 5.0x2 for 100 by 3", "#7: 0x5x2 for 100 by 3", "#7: 0x5 for 100 by 3", "#7: 1e2x2 for 100 by 3", "#7: 1_0x2 for 100 by 3", "#7: 5x2 for 1,000 by 3", "#٧: 5x2 for 100 by 3", "#７: 5x2 for 100 by 3", "\xff", "#\xff: 5x2 for 100 by 3",
	} {
		if o, no := order.Parse(s); no != api.ErrForm || !reflect.DeepEqual(o, api.Order{}) {
			t.Errorf("Parse(%q) = %v, %d; want ErrForm", s, o, no)
		}
	}
}

// written are texts with a number in each place to put another one in.
func written(place int, number string) string {
	numbers := []any{"7", "5", "2", "100", "3", "4", "1", "6", "2", "5", "3"}
	numbers[place] = number
	return fmt.Sprintf("#%s: %sx%s for %s by %s; %s*%s; %s*%s; %s*%s", numbers...)
}

// P5.2: a number too great for any order, some of which would go round to one
// that may be; and every number near the bounds, each in its only form.
func TestParseNumbers(t *testing.T) {
	great := []string{
		"2147483653", "4294967296", "4294967300", "9223372036854775807", "9223372036854775808", "9223372036854775809", "18446744073709551615", "18446744073709551616",
		"18446744073709551617", "18446744073709551620", "18446744073709551621", "36893488147419103237", "340282366920938463463374607431768211461", "10000000000000000000000000000000000000000",
		strings.Repeat("9", 1<<16), strings.Repeat("0", 1<<16), strings.Repeat("0", 1<<16) + "5", "5" + strings.Repeat("0", 1<<16),
	}
	for place := range 11 {
		for _, number := range great {
			holdParse(t, written(place, number))
			holdParse(t, written(place, "-"+number))
		}
		for n := -1100; n <= 1100; n++ {
			digits := strconv.Itoa(n)
			holdParse(t, written(place, digits))
			holdParse(t, written(place, "0"+digits))
			holdParse(t, written(place, "+"+digits))
		}
		for off := -12; off <= 12; off++ {
			for _, bound := range []int{most, 10 * most, 2 * most, 1 << 32} {
				holdParse(t, written(place, strconv.Itoa(bound+off)))
			}
		}
		for b := range 256 {
			holdParse(t, written(place, string([]byte{byte(b)})))
			holdParse(t, written(place, string([]byte{'5', byte(b)})))
		}
	}
}

// slips are s with one byte gone, doubled, put in, changed, exchanged with the
// next one, and with its beginning or its end gone.
func slips(s string) []string {
	const signs = "#: xforby;*0123456789+-X\t\n\x00\xff"
	all := []string{s}
	for i := range len(s) + 1 {
		all = append(all, s[:i], s[i:])
		for j := range len(signs) {
			all = append(all, s[:i]+signs[j:j+1]+s[i:])
			if i < len(s) {
				all = append(all, s[:i]+signs[j:j+1]+s[i+1:])
			}
		}
		if i < len(s) {
			all = append(all, s[:i]+s[i+1:], s[:i+1]+s[i:])
		}
		if i+1 < len(s) {
			all = append(all, s[:i]+s[i+1:i+2]+s[i:i+1]+s[i+2:])
		}
	}
	return all
}

// P5.2, P5.3: texts with a slip or two in them read as what they are now, or as
// nothing.
func TestParseSlips(t *testing.T) {
	for _, s := range []string{"#7: 5x2 for 100 by 3", "#1: 1x0 for 1 by 0; 4*1", "#999: 1000000000x7 for 1 by 7; 6*1000000000; 5*2; 4*1", "#10: 20x1 for 30 by 2; 5*40; 4*50"} {
		for _, slip := range slips(s) {
			holdParse(t, slip)
		}
	}
	for _, slip := range slips("#1: 1x0 for 1 by 0; 4*1") {
		for _, again := range slips(slip) {
			holdParse(t, again)
		}
	}
}

// P5.2: rows of up to five steps, good ones and bad ones.
func TestParseSteps(t *testing.T) {
	pieces := []string{"; 4*1", "; 5*1000000000", "; 6*7", "; 6*0", "; 7*1", ";5*1", "; 4", " "}
	texts := []string{"#7: 5x2 for 100 by 3"}
	for range 5 {
		var next []string
		for _, s := range texts {
			for _, step := range pieces {
				next = append(next, s+step)
			}
		}
		texts = next
		for _, s := range texts {
			holdParse(t, s)
		}
	}
	holdParse(t, "#7: 5x2 for 100 by 3"+strings.Repeat("; 4*1", 1<<20))
}

// P5.2: pieces of texts in any order: each row of up to five of them.
func TestParsePieces(t *testing.T) {
	pieces := []string{"#", "7", ": ", "5", "x", "2", " for ", "100", " by ", "3", "; ", "4*1"}
	texts := []string{""}
	for range 5 {
		var next []string
		for _, s := range texts {
			for _, piece := range pieces {
				next = append(next, s+piece)
			}
		}
		texts = next
		for _, s := range texts {
			holdParse(t, s)
			if len(s) < 6 {
				holdParse(t, "#7: 5x2 for 1 by "+s)
				holdParse(t, "#7: 5x2 for 1 by 3"+s)
				holdParse(t, s+"#7: 5x2 for 1 by 3")
			}
		}
	}
}

// R2: what is handed in is neither changed nor read behind its length; what is
// told is the caller's own.
func TestMemory(t *testing.T) {
	behind := plain().Steps
	o := plain()
	o.Steps = behind[:1]
	want := "#7: 5x2 for 100 by 3; 4*1"
	behind[1], behind[2] = api.Step{Service: 4, N: -1}, api.Step{Service: 5, N: 2}
	if !order.May(o) || order.Text(o) != want || order.At(o, 5) != -1 || !order.Same(o, api.Order{Id: 7, Item: 2, Qty: 5, Client: 3, Price: 100, Steps: steps(4, 1)}) {
		t.Errorf("steps behind the length are read: %q", order.Text(o))
	}
	if !slices.Equal(behind, steps(4, 1, 4, -1, 5, 2)) {
		t.Errorf("the steps that were handed in are %v now", behind)
	}
	first, _ := order.Parse(want)
	first.Steps[0] = api.Step{Service: 9, N: 9}
	first.Steps = append(first.Steps, first.Steps...)
	if second, no := order.Parse(want); no != api.OK || !alike(second, o) {
		t.Errorf("the second Parse = %v, %d", second, no)
	}
}
