package woe_test

import (
	"errors"
	"fmt"
	"slices"
	"strconv"
	"strings"
	"sync"
	"testing"

	"bulkhead/api"
	"bulkhead/woe"
)

// named are all numbers that have names.
var named = []api.Errno{api.OK, api.ErrArg, api.ErrOff, api.ErrLarge, api.ErrForm, api.ErrSpace, api.ErrIndex, api.ErrNodes, api.ErrNone, api.ErrRange, api.ErrDiff}

// numbers are those that have names, and others beside them.
var numbers = append(slices.Clone(named), -1, 2, 9, 13, 19, 26, 40, 1<<31-1, -1<<31)

// ways are texts of all kinds, the outermost first, at several depths.
var ways = [][]string{
	{"a"},
	{"a", "b"},
	{"b", "a"},
	{""},
	{"", "", ""},
	{"same", "same"},
	{"with: sign", ": "},
	{"\x00", "\xff\xfe", "ä€😀", "line\nbreak"},
	{"bulkhead: error 10", "nothing"},
	{"1", "2", "3", "4", "5", "6", "7", "8", "9", "10", "11", "12"},
}

// wrapped is err, in by those places, the outermost first.
func wrapped(way []string, err error) error {
	for _, where := range slices.Backward(way) {
		err = woe.In(where, err)
	}
	return err
}

// told is what an error of that way and number says.
func told(way []string, n api.Errno) string {
	text := ""
	for _, where := range way {
		text += where + ": "
	}
	return text + "bulkhead: error " + strconv.Itoa(int(n))
}

// deep is how often an error is wrapped where it is wrapped often.
const deep = 200_000

// plain is an error without a number.
var plain = errors.New("plain")

// list is an error that can't be compared.
type list []int

func (l list) Error() string { return "list" }

// bad is an error whose own method panics.
type bad struct{ where string }

func (b bad) Error() string { panic("Error") }

// badUnwrap panics when it is asked for what is beneath it.
type badUnwrap struct{ bad }

func (b badUnwrap) Unwrap() error { panic("Unwrap") }

// badAs panics when it is asked what it is.
type badAs struct{ bad }

func (b badAs) As(any) bool { panic("As") }

// badIs panics when it is held against another one.
type badIs struct{ bad }

func (b badIs) Is(error) bool { panic("Is") }

// linked is an error of another's making with one beneath it.
type linked struct{ beneath error }

func (l *linked) Error() string { return "linked" }
func (l *linked) Unwrap() error { return l.beneath }

// P3.1: In of nil is nil, whatever the place.
func TestInOfNothing(t *testing.T) {
	for _, where := range []string{"", "a", "a: b"} {
		if err := woe.In(where, nil); err != nil {
			t.Errorf("In(%q, nil) is %v", where, err)
		}
	}
	if err := wrapped([]string{"a", "b", "c"}, nil); err != nil {
		t.Errorf("nil, thrice in, is %v", err)
	}
}

// P3.1: In of an error is a *Woe of that place, and Unwrap answers that very error.
func TestInAndUnwrap(t *testing.T) {
	for _, n := range numbers {
		for _, way := range ways {
			var err error = n
			for _, where := range slices.Backward(way) {
				outer := woe.In(where, err)
				w, ok := outer.(*woe.Woe)
				if !ok || w == nil {
					t.Fatalf("In(%q, %v) is %T", where, err, outer)
				}
				if w.Where != where {
					t.Errorf("In(%q, %v) was met in %q", where, err, w.Where)
				}
				if w.Unwrap() != err || errors.Unwrap(outer) != err {
					t.Errorf("In(%q, %v) unwraps to %v", where, err, w.Unwrap())
				}
				err = outer
			}
		}
	}
}

// P3.1: two errors of the same place and number are two, each as it was made.
func TestInMakesNew(t *testing.T) {
	first, second := woe.In("a", api.ErrOff).(*woe.Woe), woe.In("a", api.ErrOff).(*woe.Woe)
	if first == second {
		t.Fatal("two calls answer one Woe")
	}
	other := woe.In("b", first)
	first.Where = "changed"
	if second.Where != "a" || second.Error() != "a: bulkhead: error 10" {
		t.Errorf("the second one says %q", second.Error())
	}
	if got := woe.Way(other); !slices.Equal(got, []string{"b", "changed"}) {
		t.Errorf("the way is %q", got)
	}
}

// P3.1: Unwrap of a nil *Woe, and of one that In didn't make, is nil.
func TestUnwrapOfNothing(t *testing.T) {
	var none *woe.Woe
	for _, w := range []*woe.Woe{none, {}, {Where: "a"}} {
		if err := w.Unwrap(); err != nil {
			t.Errorf("%#v unwraps to %v", w, err)
		}
	}
}

// P3.1: Error tells the way, and what the number says.
func TestError(t *testing.T) {
	for _, n := range numbers {
		for _, way := range ways {
			if got, want := wrapped(way, n).Error(), told(way, n); got != want {
				t.Errorf("the text is %q, want %q", got, want)
			}
		}
	}
}

// P3.1: texts that are known.
func TestKnownErrors(t *testing.T) {
	known := map[string]error{
		"a: b: bulkhead: error 10": woe.In("a", woe.In("b", api.ErrOff)),
		"a: bulkhead: error 1":     woe.In("a", api.ErrArg),
		": bulkhead: error 25":     woe.In("", api.ErrDiff),
		"x: bulkhead: error 0":     woe.In("x", api.OK),
		"x: bulkhead: error -1":    woe.In("x", api.Errno(-1)),
	}
	for want, err := range known {
		if got := err.Error(); got != want {
			t.Errorf("the text is %q, want %q", got, want)
		}
	}
}

// P3.1: where Unwrap answers nil, Error is "nothing".
func TestErrorOfNothing(t *testing.T) {
	var none *woe.Woe
	for _, w := range []*woe.Woe{none, {}, {Where: "a"}} {
		if got := w.Error(); got != "nothing" {
			t.Errorf("%#v says %q", w, got)
		}
	}
}

// P3.1: the text of an error without a number is that of its way and of ErrArg.
func TestErrorWithoutNumber(t *testing.T) {
	for _, err := range []error{plain, list{1}, &woe.Woe{}, (*woe.Woe)(nil), bad{}} {
		way := append([]string{"a"}, woe.Way(err)...)
		if got, want := woe.In("a", err).Error(), told(way, api.ErrArg); got != want {
			t.Errorf("the text is %q, want %q", got, want)
		}
	}
}

// P3.1: Number is the Errno that was wrapped, however often, or that is handed in itself.
func TestNumber(t *testing.T) {
	for _, n := range numbers {
		if got := woe.Number(n); got != n {
			t.Errorf("the number of %d itself is %d", n, got)
		}
		for _, way := range ways {
			if got := woe.Number(wrapped(way, n)); got != n {
				t.Errorf("the number of %d in %q is %d", n, way, got)
			}
		}
	}
}

// P3.1: Number of nil is OK, and ErrArg of what has no number.
func TestNumberOfNone(t *testing.T) {
	if got := woe.Number(nil); got != api.OK {
		t.Errorf("the number of nil is %d", got)
	}
	var none *woe.Woe
	for _, err := range []error{plain, list{1}, none, &woe.Woe{}, &woe.Woe{Where: "a"}, &linked{}, errors.Join(plain, list{})} {
		for _, outer := range []error{err, woe.In("a", err), woe.In("a", woe.In("b", err))} {
			if got := woe.Number(outer); got != api.ErrArg {
				t.Errorf("the number of %T is %d", err, got)
			}
		}
	}
}

// P3.1: Way names the places from the outermost on.
func TestWay(t *testing.T) {
	for _, n := range numbers {
		for _, way := range ways {
			if got := woe.Way(wrapped(way, n)); !slices.Equal(got, way) {
				t.Errorf("the way is %q, want %q", got, way)
			}
		}
	}
}

// P3.1: nil, an Errno itself, and what was met nowhere have no way; one that In didn't make has its own place.
func TestWayOfNone(t *testing.T) {
	var none *woe.Woe
	for _, err := range []error{nil, api.OK, api.ErrArg, api.ErrOff, plain, list{1}, none, &linked{}} {
		if got := woe.Way(err); len(got) != 0 {
			t.Errorf("the way of %T is %q", err, got)
		}
	}
	if got := woe.Way(woe.In("a", none)); !slices.Equal(got, []string{"a"}) {
		t.Errorf("the way of a nil *Woe that was met is %q", got)
	}
	if got := woe.Way(&woe.Woe{Where: "a"}); !slices.Equal(got, []string{"a"}) {
		t.Errorf("the way of a Woe of nothing is %q", got)
	}
}

// P3.1: each way is new memory: what is written to one isn't in the next, nor in the error.
func TestWayIsNew(t *testing.T) {
	err := wrapped([]string{"a", "b"}, api.ErrOff)
	first := woe.Way(err)
	first[0], first[1] = "x", "y"
	_ = append(first[:1], "z")
	if got := woe.Way(err); !slices.Equal(got, []string{"a", "b"}) {
		t.Errorf("the way is %q", got)
	}
	if got := err.Error(); got != "a: b: bulkhead: error 10" {
		t.Errorf("the text is %q", got)
	}
}

// P3.1: Full of the three that say there is no room, and of no other one.
func TestFull(t *testing.T) {
	for n := api.Errno(-5); n <= 60; n++ {
		want := n == api.ErrSpace || n == api.ErrIndex || n == api.ErrNodes
		if got := woe.Full(n); got != want {
			t.Errorf("Full of %d itself is %v", n, got)
		}
		for _, way := range ways {
			if got := woe.Full(wrapped(way, n)); got != want {
				t.Errorf("Full of %d in %q is %v", n, way, got)
			}
		}
	}
}

// P3.1: Full of nil, and of what has no number, is false.
func TestFullOfNone(t *testing.T) {
	var none *woe.Woe
	for _, err := range []error{nil, plain, list{1}, none, &woe.Woe{Where: "a"}, &linked{}} {
		if woe.Full(err) || woe.Full(woe.In("a", err)) {
			t.Errorf("%T is full", err)
		}
	}
}

// P3.1: the chain goes through links of others' making.
func TestOthersLinks(t *testing.T) {
	err := woe.In("a", fmt.Errorf("other: %w", woe.In("b", &linked{woe.In("c", api.ErrIndex)})))
	if got := woe.Number(err); got != api.ErrIndex {
		t.Errorf("the number is %d", got)
	}
	if got := woe.Way(err); !slices.Equal(got, []string{"a", "b", "c"}) {
		t.Errorf("the way is %q", got)
	}
	if !woe.Full(err) {
		t.Error("it isn't full")
	}
	if got := err.Error(); got != "a: b: c: bulkhead: error 21" {
		t.Errorf("the text is %q", got)
	}
}

// P3.1: of several numbers, the one that errors.As finds first; Full, if errors.Is finds one at all.
func TestJoined(t *testing.T) {
	err := woe.In("a", errors.Join(plain, woe.In("b", api.ErrOff), api.ErrNodes))
	if got := woe.Number(err); got != api.ErrOff {
		t.Errorf("the number is %d", got)
	}
	if !woe.Full(err) {
		t.Error("it isn't full")
	}
}

// P3.1: by the words, also for what was wrapped very often.
func TestDeep(t *testing.T) {
	way := make([]string, deep)
	for i := range way {
		way[i] = strconv.Itoa(i)
	}
	err := wrapped(way, api.ErrSpace)
	if got := woe.Number(err); got != api.ErrSpace {
		t.Errorf("the number is %d", got)
	}
	if got := woe.Way(err); !slices.Equal(got, way) {
		t.Errorf("the way has %d places, want %d", len(got), len(way))
	}
	if !woe.Full(err) {
		t.Error("it isn't full")
	}
	if want := strings.Join(way, ": ") + ": bulkhead: error 20"; err.Error() != want {
		t.Error("the text is another one")
	}
}

// P3.2: errors.Is finds the number that was wrapped, and no other one.
func TestIs(t *testing.T) {
	for _, n := range numbers {
		for _, way := range ways {
			err := wrapped(way, n)
			for _, other := range numbers {
				if got := errors.Is(err, other); got != (n == other) {
					t.Errorf("%d in %q: errors.Is finds %d: %v", n, way, other, got)
				}
			}
			if !errors.Is(err, err) || errors.Is(err, nil) || errors.Is(err, plain) || errors.Is(err, wrapped(way, n)) {
				t.Errorf("%d in %q: errors.Is finds what it isn't", n, way)
			}
		}
	}
}

// P3.2: errors.As finds the number that was wrapped, and the outermost Woe.
func TestAs(t *testing.T) {
	for _, n := range numbers {
		for _, way := range ways {
			err := wrapped(way, n)
			found := n + 1
			if !errors.As(err, &found) || found != n {
				t.Errorf("%d in %q: errors.As finds %d", n, way, found)
			}
			var w *woe.Woe
			if !errors.As(err, &w) || error(w) != err || w.Where != way[0] {
				t.Errorf("%d in %q: errors.As finds %v", n, way, w)
			}
			var l *linked
			if errors.As(err, &l) {
				t.Errorf("%d in %q: errors.As finds a link that isn't there", n, way)
			}
		}
	}
}

// P3.2: errors.Is and errors.As find what was wrapped very often too.
func TestFindDeep(t *testing.T) {
	var err error = api.ErrRange
	for range deep {
		err = woe.In("x", err)
	}
	err = woe.In("outermost", err)
	if !errors.Is(err, api.ErrRange) || errors.Is(err, api.ErrNone) {
		t.Error("errors.Is finds another one")
	}
	var n api.Errno
	if !errors.As(err, &n) || n != api.ErrRange {
		t.Errorf("errors.As finds %d", n)
	}
	var w *woe.Woe
	if !errors.As(err, &w) || w.Where != "outermost" {
		t.Error("errors.As finds another Woe")
	}
}

// P0: where a link's own method panics, the calls don't, and tell what lies ahead of it.
func TestPanicsStayInside(t *testing.T) {
	for _, link := range []error{badUnwrap{}, badAs{}, badIs{}, bad{}, (*linked)(nil), (*badUnwrap)(nil)} {
		for _, way := range [][]string{nil, {"a"}, {"a", "b"}} {
			err := wrapped(way, link)
			if got := woe.Number(err); got != api.ErrArg {
				t.Errorf("%T in %q: the number is %d", link, way, got)
			}
			if got := woe.Way(err); !slices.Equal(got, way) {
				t.Errorf("%T in %q: the way is %q", link, way, got)
			}
			if woe.Full(err) {
				t.Errorf("%T in %q is full", link, way)
			}
			if w, ok := err.(*woe.Woe); ok && w.Error() != told(way, api.ErrArg) {
				t.Errorf("%T in %q: the text is %q", link, way, w.Error())
			}
		}
	}
}

// P0: a chain that leads back into itself has no number, and each call ends.
func TestChainsThatNeverEnd(t *testing.T) {
	if testing.Short() {
		t.Skip("each call counts 2^31 links")
	}
	self := &linked{}
	self.beneath = self
	around := &linked{}
	around.beneath = woe.In("a", woe.In("b", around))
	// Each count takes some seconds.
	var all sync.WaitGroup
	all.Go(func() {
		if got := woe.Number(self); got != api.ErrArg {
			t.Errorf("the number is %d", got)
		}
	})
	all.Go(func() {
		if woe.Full(around) {
			t.Error("it is full")
		}
	})
	all.Go(func() { woe.Way(around.beneath) })
	all.Wait()
}
