package pers_test

import (
	"math"
	"slices"
	"testing"

	"bulkhead/api"
	"bulkhead/disk"
	"bulkhead/pers"
)

// types are all types of reservations that there are.
var types = []int{1, 3, 5, 6, 7, 8}

// chance answers numbers below its argument, the same ones for the same seed.
func chance(seed int) func(n int) int {
	x := uint64(seed)*2654435761 + 12345
	return func(n int) int {
		x ^= x << 13
		x ^= x >> 7
		x ^= x << 17
		return int(x>>8) % n
	}
}

// beyond are numbers that are none of n, nor one less than 0.
func beyond(n int) []int {
	return []int{-2, -3, -n, n, n + 1, 64, 255, 256, 257, 65536, 1 << 31, 1 << 32, 1<<32 + 1, 1<<32 - 1, -1 << 32, 1 << 62, math.MinInt, math.MinInt + 1, math.MaxInt, math.MaxInt - 3}
}

// same tells whether two tables have the same in all their parts.
func same(x, y api.Table) bool {
	return x.Gen == y.Gen && slices.Equal(x.Keys, y.Keys) && x.Holder == y.Holder && x.Type == y.Type && x.Aptpl == y.Aptpl
}

// list are registrations: nexus, key, nexus, key, and so on.
func list(x ...uint64) []api.Registrant {
	var l []api.Registrant
	for i := 0; i+1 < len(x); i += 2 {
		l = append(l, api.Registrant{Nexus: int(x[i]), Key: x[i+1]})
	}
	return l
}

// A telling is a table by the chapter's words, in another form: a nexus without a key isn't registered.
type telling struct {
	gen    uint32
	key    [8]uint64
	holder int
	kind   int
	aptpl  bool
}

// table is the table that w tells.
func (w telling) table() api.Table {
	t := api.Table{Gen: w.gen, Holder: w.holder, Type: w.kind, Aptpl: w.aptpl}
	for n, k := range w.key {
		if k != 0 {
			t.Keys = append(t.Keys, api.Registrant{Nexus: n, Key: k})
		}
	}
	return t
}

// count is how many are registered.
func (w telling) count() int {
	n := 0
	for _, k := range w.key {
		if k != 0 {
			n++
		}
	}
	return n
}

// holds is what Holds answers.
func (w telling) holds(nexus int) bool {
	if nexus < 0 || nexus > 7 || w.key[nexus] == 0 || w.holder == -1 {
		return false
	}
	return w.holder == nexus || w.kind >= 7
}

// barred says of each type, of who holds, a registrant who doesn't, and another one, what that one is barred from: r reading, w what changes or settles blocks.
func barred(kind int) [3]string {
	switch kind {
	case 1:
		return [3]string{"", "w", "w"}
	case 3:
		return [3]string{"", "rw", "rw"}
	case 5:
		return [3]string{"", "", "w"}
	case 6:
		return [3]string{"", "", "rw"}
	case 7:
		return [3]string{"", "", "w"}
	case 8:
		return [3]string{"", "", "rw"}
	}
	return [3]string{}
}

// bars is what Bars answers.
func (w telling) bars(nexus, do int) bool {
	who := 2
	if nexus >= 0 && nexus < 8 && w.key[nexus] != 0 {
		who = 1
	}
	if w.holds(nexus) {
		who = 0
	}
	what := byte(0)
	switch do {
	case 6:
		what = 'r'
	case 7, 8, 9, 10, 11:
		what = 'w'
	}
	for _, c := range []byte(barred(w.kind)[who]) {
		if c == what {
			return true
		}
	}
	return false
}

// removed is w without the registrations of those nexuses.
func (w telling) removed(out [8]bool) telling {
	lost := w.holder >= 0 && out[w.holder] && w.key[w.holder] != 0
	for n := range 8 {
		if out[n] {
			w.key[n] = 0
		}
	}
	if !lost {
		return w
	}
	for n := range 8 {
		if w.kind >= 7 && w.key[n] != 0 {
			w.holder = n
			return w
		}
	}
	w.holder, w.kind = -1, 0
	return w
}

// gone are the nexuses whose registration v has no more, without one.
func (w telling) gone(v telling, nexus int) []int {
	var l []int
	for n := range 8 {
		if n != nexus && w.key[n] != 0 && v.key[n] == 0 {
			l = append(l, n)
		}
	}
	return l
}

// act is what Act answers, of a nexus 0 to 7: w then, and the status.
func (w telling) act(nexus int, o pers.Order) (telling, int) {
	own := w.key[nexus]
	if o.Action == 0 || o.Action == 6 {
		return w.enrolled(nexus, o)
	}
	if o.Action > 6 || o.Action < 0 {
		return w, 2
	}
	if own == 0 || own != o.Key {
		return w, 0x18
	}
	right := slices.Contains(types, o.Type)
	v := w
	switch o.Action {
	case 1:
		if !right {
			return w, 2
		}
		if w.holder == -1 {
			v.holder, v.kind = nexus, o.Type
			return v, 0
		}
		if !w.holds(nexus) || w.kind != o.Type {
			return w, 0x18
		}
		return w, 0
	case 2:
		if w.holder == -1 || !w.holds(nexus) {
			return w, 0
		}
		if w.kind != o.Type {
			return w, 2
		}
		v.holder, v.kind = -1, 0
		return v, 0
	case 3:
		v.key, v.holder, v.kind = [8]uint64{}, -1, 0
		v.gen++
		return v, 0
	}
	return w.preempted(nexus, o)
}

// enrolled is act of Register and Ignore.
func (w telling) enrolled(nexus int, o pers.Order) (telling, int) {
	own := w.key[nexus]
	if o.Action == 0 && o.Key != own {
		return w, 0x18
	}
	if own == 0 && o.Other == 0 {
		return w, 0
	}
	if own == 0 && w.count() == 6 {
		return w, 8
	}
	if o.Other == 0 {
		var out [8]bool
		out[nexus] = true
		w = w.removed(out)
	}
	w.key[nexus] = o.Other
	w.aptpl = o.Aptpl
	w.gen++
	return w, 0
}

// preempted is act of Preempt and Abort, of a nexus that is registered.
func (w telling) preempted(nexus int, o pers.Order) (telling, int) {
	takes := false
	switch w.kind {
	case 7, 8:
		takes = o.Other == 0
	case 1, 3, 5, 6:
		takes = o.Other == w.key[w.holder]
	}
	if o.Other == 0 && !takes {
		return w, 2
	}
	if takes && !slices.Contains(types, o.Type) {
		return w, 2
	}
	var named [8]bool
	some := false
	for n, k := range w.key {
		if takes && o.Other == 0 {
			named[n] = k != 0 && n != nexus
		} else {
			named[n] = k != 0 && k == o.Other && !(takes && n == nexus)
		}
		some = some || named[n]
	}
	if !some && !takes {
		return w, 0x18
	}
	w = w.removed(named)
	if takes {
		w.holder, w.kind = nexus, o.Type
	}
	w.gen++
	return w, 0
}

// acted holds an Act against the words, and answers what is told then.
func acted(t testing.TB, w telling, nexus int, o pers.Order) (telling, int) {
	t.Helper()
	v, status := w.act(nexus, o)
	x, s, gone := pers.Act(w.table(), nexus, o)
	if s != status || !same(x, v.table()) || !slices.Equal(gone, w.gone(v, nexus)) {
		t.Fatalf("of %v nexus %d's %v makes %v, %d, %v, want %v, %d, %v", w.table(), nexus, o, x, s, gone, v.table(), status, w.gone(v, nexus))
	}
	if !pers.Sound(x) {
		t.Fatalf("of %v nexus %d's %v makes %v, which can't be", w.table(), nexus, o, x)
	}
	return v, status
}

// reserved are w without a reservation, and with each that a registered nexus can have.
func (w telling) reserved() []telling {
	w.holder, w.kind = -1, 0
	l := []telling{w}
	for n, k := range w.key {
		if k == 0 {
			continue
		}
		for _, kind := range types {
			v := w
			v.holder, v.kind = n, kind
			l = append(l, v)
		}
	}
	return l
}

// few are all tellings in which some of those nexuses have one of keys, with all reservations.
func few(nexuses []int, keys []uint64) []telling {
	l := []telling{{holder: -1}}
	for _, n := range nexuses {
		for _, w := range slices.Clone(l) {
			for _, k := range keys {
				w.key[n] = k
				l = append(l, w)
			}
		}
	}
	var all []telling
	for _, w := range l {
		if w.count() <= 6 {
			all = append(all, w.reserved()...)
		}
	}
	return all
}

// someTelling is one of up to six registrations, with whatever keys of those and whatever reservation.
func someTelling(next func(n int) int, keys []uint64) telling {
	w := telling{gen: uint32(next(1 << 33)), aptpl: next(2) == 0}
	for range next(10) {
		if w.count() < 6 {
			w.key[next(8)] = keys[next(len(keys))]
		}
	}
	l := w.reserved()
	return l[next(len(l))]
}

// P10.1: the chapter's examples.
func TestExample(t *testing.T) {
	x, s, gone := pers.Act(pers.None(), 1, pers.Order{Action: pers.Register, Other: 5})
	if want := (api.Table{Gen: 1, Keys: list(1, 5), Holder: -1}); !same(x, want) || s != api.Good || len(gone) != 0 {
		t.Fatalf("Register makes %v, %d, %v", x, s, gone)
	}
	x, s, gone = pers.Act(x, 1, pers.Order{Action: pers.Reserve, Type: 1, Key: 5})
	if want := (api.Table{Gen: 1, Keys: list(1, 5), Holder: 1, Type: 1}); !same(x, want) || s != api.Good || len(gone) != 0 {
		t.Fatalf("Reserve makes %v, %d, %v", x, s, gone)
	}
	x, s, gone = pers.Act(x, 2, pers.Order{Action: pers.Register, Other: 6})
	if want := (api.Table{Gen: 2, Keys: list(1, 5, 2, 6), Holder: 1, Type: 1}); !same(x, want) || s != api.Good || len(gone) != 0 {
		t.Fatalf("Register makes %v, %d, %v", x, s, gone)
	}
	if !pers.Bars(x, 2, api.DoWrite) || pers.Bars(x, 2, api.DoRead) {
		t.Fatal("2 isn't barred from writing, or is from reading")
	}
	x, s, gone = pers.Act(x, 2, pers.Order{Action: pers.Preempt, Type: 3, Key: 6, Other: 5})
	if want := (api.Table{Gen: 3, Keys: list(2, 6), Holder: 2, Type: 3}); !same(x, want) || s != api.Good || !slices.Equal(gone, []int{1}) {
		t.Fatalf("Preempt makes %v, %d, %v", x, s, gone)
	}
}

// P10.1: the numbers of types and actions.
func TestNumbers(t *testing.T) {
	if got := []int{pers.WriteExclusive, pers.ExclusiveAccess, pers.WriteRegistrant, pers.AccessRegistrant, pers.WriteAll, pers.AccessAll}; !slices.Equal(got, types) {
		t.Errorf("the types are %v", got)
	}
	if got := []int{pers.Register, pers.Reserve, pers.Release, pers.Clear, pers.Preempt, pers.Abort, pers.Ignore}; !slices.Equal(got, []int{0, 1, 2, 3, 4, 5, 6}) {
		t.Errorf("the actions are %v", got)
	}
}

// P10.1: None is zeros but for its Holder; it can be, and nobody holds it or is barred.
func TestNone(t *testing.T) {
	x := pers.None()
	if !same(x, api.Table{Holder: -1}) || !pers.Sound(x) {
		t.Fatalf("None is %v", x)
	}
	for n := -1; n < 10; n++ {
		for do := -1; do < 16; do++ {
			if pers.Holds(x, n) || pers.Bars(x, n, do) {
				t.Fatalf("of none nexus %d holds, or is barred from %d", n, do)
			}
		}
	}
}

// P10.1: tables that can be, with each set of nexuses, up to six, and what makes one that can't.
func TestSoundOfEachSet(t *testing.T) {
	for set := range 256 {
		w := telling{gen: uint32(set) << 24, aptpl: set%3 == 0}
		for n := range 8 {
			if set>>n&1 == 1 {
				w.key[n] = 1 << (9 * n % 64)
			}
		}
		for _, v := range w.reserved() {
			if x := v.table(); pers.Sound(x) != (len(x.Keys) <= 6) {
				t.Fatalf("of %v Sound is %v", x, pers.Sound(x))
			}
		}
	}
}

// P10.1: each wrong thing for itself makes a table that can't be.
func TestNotSound(t *testing.T) {
	six := list(0, 1, 1, 1, 3, 1, 4, 1, 6, 1, 7, 1)
	wrong := []api.Table{
		{},
		{Holder: -1, Keys: append(slices.Clone(six), list(8, 1)...)},
		{Holder: -1, Keys: append([]api.Registrant{{Nexus: -1, Key: 1}}, six[:5]...)},
		{Holder: -1, Keys: list(0, 1, 1, 1, 2, 1, 3, 1, 4, 1, 5, 1, 6, 1)},
		{Holder: -1, Keys: list(0, 1, 1, 1, 2, 1, 3, 1, 4, 1, 5, 1, 6, 1, 7, 1)},
		{Holder: -1, Keys: make([]api.Registrant, 100000)},
		{Holder: -1, Keys: list(0, 0)},
		{Holder: -1, Keys: list(0, 1, 1, 0)},
		{Holder: -1, Keys: list(0, 0, 1, 1)},
		{Holder: -1, Keys: list(1, 1, 0, 1)},
		{Holder: -1, Keys: list(0, 1, 2, 1, 1, 1)},
		{Holder: -1, Keys: list(2, 1, 2, 1)},
		{Holder: -1, Keys: list(2, 1, 2, 3)},
		{Holder: -1, Keys: list(0, 1, 7, 1, 7, 2)},
		{Holder: 0, Type: 0, Keys: list(0, 1)},
		{Holder: -1, Type: 1, Keys: list(0, 1)},
		{Holder: -2, Type: 0, Keys: list(0, 1)},
		{Holder: 1, Type: 1, Keys: list(0, 1, 2, 1)},
		{Holder: 1, Type: 8, Keys: list(0, 1, 2, 1)},
		{Holder: 1, Type: 1},
		{Holder: 8, Type: 1, Keys: list(0, 1, 8, 1)},
		{Holder: 1, Type: 1, Keys: list(0, 1, 1, 0)},
	}
	for _, n := range beyond(8) {
		wrong = append(wrong, api.Table{Holder: n, Keys: list(0, 1)}, api.Table{Holder: n, Type: 7, Keys: list(0, 1)},
			api.Table{Holder: -1, Keys: []api.Registrant{{Nexus: n, Key: 1}}}, api.Table{Holder: n, Type: 7, Keys: []api.Registrant{{Nexus: n, Key: 1}}})
	}
	for _, n := range append(beyond(9), -1, 0, 2, 4) {
		wrong = append(wrong, api.Table{Holder: 0, Type: n, Keys: list(0, 1)})
		if n != 0 {
			wrong = append(wrong, api.Table{Holder: -1, Type: n, Keys: list(0, 1)})
		}
	}
	for i, x := range wrong {
		if pers.Sound(x) {
			t.Errorf("%d: %v is said to be one that can be", i, x)
		}
	}
}

// can is what Sound answers, once more by the words.
func can(x api.Table) bool {
	holder := false
	for i, r := range x.Keys {
		if r.Nexus < 0 || r.Nexus > 7 || r.Key == 0 || i > 0 && x.Keys[i-1].Nexus >= r.Nexus {
			return false
		}
		holder = holder || r.Nexus == x.Holder
	}
	return len(x.Keys) <= 6 && (x.Holder == -1 && x.Type == 0 || holder && slices.Contains(types, x.Type))
}

// P10.1: Sound of all short tables, whatever is in them.
func TestSoundOfShortTables(t *testing.T) {
	lists := [][]api.Registrant{nil}
	for n := 0; n < len(lists) && len(lists[n]) < 3; n++ {
		for nexus := -1; nexus <= 8; nexus += 1 + len(lists[n]) {
			for k := range 2 {
				lists = append(lists, append(slices.Clone(lists[n]), api.Registrant{Nexus: nexus, Key: uint64(k) << 63}))
			}
		}
	}
	for _, l := range lists {
		for holder := -2; holder <= 8; holder++ {
			for kind := -1; kind <= 9; kind++ {
				if x := (api.Table{Keys: l, Holder: holder, Type: kind}); pers.Sound(x) != can(x) {
					t.Fatalf("of %v Sound is %v", x, pers.Sound(x))
				}
			}
		}
	}
}

// P10.1, P10.2: who holds, and what bars whom from what, of all tables of few nexuses; whoever holds isn't barred.
func TestHoldsAndBars(t *testing.T) {
	l := few([]int{0, 3, 7}, []uint64{1, 1 << 63})
	l = append(l, few([]int{0, 1, 2, 4, 5, 6}, []uint64{9})...)
	for _, w := range l {
		x := w.table()
		for _, n := range append(beyond(8), -1, 0, 1, 2, 3, 4, 5, 6, 7) {
			if pers.Holds(x, n) != w.holds(n) {
				t.Fatalf("of %v Holds of nexus %d is %v", x, n, pers.Holds(x, n))
			}
			for _, do := range append(beyond(14), -1, 0, 1, 2, 3, 4, 5, 6, 7, 8, 9, 10, 11, 12, 13) {
				b := pers.Bars(x, n, do)
				if b != w.bars(n, do) {
					t.Fatalf("of %v Bars of nexus %d and %d is %v", x, n, do, b)
				}
				if b && pers.Holds(x, n) {
					t.Fatalf("of %v nexus %d holds, and is barred from %d", x, n, do)
				}
			}
		}
	}
}

// A row is an order of a table, and what comes of it.
type row struct {
	name   string
	before api.Table
	nexus  int
	order  pers.Order
	after  api.Table
	status int
	gone   []int
}

// held holds rows against Act.
func held(t *testing.T, rows []row) {
	t.Helper()
	for _, r := range rows {
		x, s, gone := pers.Act(r.before, r.nexus, r.order)
		if !same(x, r.after) || s != r.status || !slices.Equal(gone, r.gone) {
			t.Errorf("%s: %v, %d, %v, want %v, %d, %v", r.name, x, s, gone, r.after, r.status, r.gone)
		}
	}
}

// P10.1: Register and Ignore.
func TestRegister(t *testing.T) {
	none := pers.None()
	two := api.Table{Gen: 7, Keys: list(2, 20, 5, 50), Holder: 5, Type: 3, Aptpl: true}
	all := api.Table{Gen: 7, Keys: list(2, 20, 4, 40, 5, 50), Holder: 4, Type: 8}
	last := api.Table{Gen: math.MaxUint32, Keys: list(4, 40), Holder: 4, Type: 7}
	held(t, []row{
		{"a key that isn't there", none, 0, pers.Order{Key: 1, Other: 1}, none, api.Conflict, nil},
		{"a key that isn't there, nothing to register", none, 0, pers.Order{Key: 1}, none, api.Conflict, nil},
		{"nothing to register", none, 0, pers.Order{Aptpl: true}, none, api.Good, nil},
		{"ignoring, nothing to register", none, 0, pers.Order{Action: 6, Key: 9, Aptpl: true}, none, api.Good, nil},
		{"the first one", none, 3, pers.Order{Other: math.MaxUint64, Type: 99}, api.Table{Gen: 1, Keys: list(3, math.MaxUint64), Holder: -1}, api.Good, nil},
		{"the first one, to last", none, 3, pers.Order{Other: 1, Aptpl: true}, api.Table{Gen: 1, Keys: list(3, 1), Holder: -1, Aptpl: true}, api.Good, nil},
		{"ignoring, the first one", none, 7, pers.Order{Action: 6, Key: 8, Other: 1}, api.Table{Gen: 1, Keys: list(7, 1), Holder: -1}, api.Good, nil},
		{"ahead of others", two, 0, pers.Order{Other: 1}, api.Table{Gen: 8, Keys: list(0, 1, 2, 20, 5, 50), Holder: 5, Type: 3}, api.Good, nil},
		{"between others", two, 3, pers.Order{Other: 20, Aptpl: true}, api.Table{Gen: 8, Keys: list(2, 20, 3, 20, 5, 50), Holder: 5, Type: 3, Aptpl: true}, api.Good, nil},
		{"behind others", two, 7, pers.Order{Action: 6, Key: 50, Other: 2}, api.Table{Gen: 8, Keys: list(2, 20, 5, 50, 7, 2), Holder: 5, Type: 3}, api.Good, nil},
		{"another's key", two, 2, pers.Order{Key: 50, Other: 2}, two, api.Conflict, nil},
		{"another's key, of one who isn't registered", two, 3, pers.Order{Key: 50, Other: 2}, two, api.Conflict, nil},
		{"key 0 of one who is registered", two, 2, pers.Order{Other: 2}, two, api.Conflict, nil},
		{"another key", two, 2, pers.Order{Key: 20, Other: 2}, api.Table{Gen: 8, Keys: list(2, 2, 5, 50), Holder: 5, Type: 3}, api.Good, nil},
		{"the same key", two, 5, pers.Order{Key: 50, Other: 50, Aptpl: true}, api.Table{Gen: 8, Keys: list(2, 20, 5, 50), Holder: 5, Type: 3, Aptpl: true}, api.Good, nil},
		{"ignoring, another key", two, 5, pers.Order{Action: 6, Key: 20, Other: 3}, api.Table{Gen: 8, Keys: list(2, 20, 5, 3), Holder: 5, Type: 3}, api.Good, nil},
		{"removed, not the Holder", two, 2, pers.Order{Key: 20, Aptpl: true}, api.Table{Gen: 8, Keys: list(5, 50), Holder: 5, Type: 3, Aptpl: true}, api.Good, nil},
		{"removed, the Holder", two, 5, pers.Order{Key: 50}, api.Table{Gen: 8, Keys: list(2, 20), Holder: -1}, api.Good, nil},
		{"removed, the Holder of all", all, 4, pers.Order{Action: 6}, api.Table{Gen: 8, Keys: list(2, 20, 5, 50), Holder: 2, Type: 8}, api.Good, nil},
		{"removed, another one of all", all, 2, pers.Order{Key: 20}, api.Table{Gen: 8, Keys: list(4, 40, 5, 50), Holder: 4, Type: 8}, api.Good, nil},
		{"removed, the last one of all", last, 4, pers.Order{Key: 40}, api.Table{Gen: 0, Holder: -1}, api.Good, nil},
		{"around", last, 4, pers.Order{Key: 40, Other: 1}, api.Table{Gen: 0, Keys: list(4, 1), Holder: 4, Type: 7}, api.Good, nil},
	})
}

// P10.1: Reserve, Release and Clear, and an action that is none, with what comes first where several things apply.
func TestReserveReleaseClear(t *testing.T) {
	free := api.Table{Gen: 7, Keys: list(2, 20, 5, 50), Holder: -1, Aptpl: true}
	one := api.Table{Gen: 7, Keys: list(2, 20, 5, 50), Holder: 5, Type: 6}
	all := api.Table{Gen: math.MaxUint32, Keys: list(2, 20, 5, 50, 6, 20), Holder: 5, Type: 7, Aptpl: true}
	held(t, []row{
		{"no such action", free, 2, pers.Order{Action: 7, Key: 20}, free, api.Check, nil},
		{"no such action, of one who isn't registered", free, 3, pers.Order{Action: -1, Key: 1}, free, api.Check, nil},
		{"reserve unregistered", free, 3, pers.Order{Action: 1, Type: 1}, free, api.Conflict, nil},
		{"reserve, no type, unregistered", free, 3, pers.Order{Action: 1}, free, api.Conflict, nil},
		{"reserve, no type, another key", free, 2, pers.Order{Action: 1, Key: 50}, free, api.Conflict, nil},
		{"reserve, no type", free, 2, pers.Order{Action: 1, Key: 20, Type: 4}, free, api.Check, nil},
		{"reserve, no type, while another one holds", one, 2, pers.Order{Action: 1, Key: 20, Type: 2}, one, api.Check, nil},
		{"reserve", free, 2, pers.Order{Action: 1, Key: 20, Type: 8, Other: 50, Aptpl: false}, api.Table{Gen: 7, Keys: free.Keys, Holder: 2, Type: 8, Aptpl: true}, api.Good, nil},
		{"reserve once more", one, 5, pers.Order{Action: 1, Key: 50, Type: 6, Aptpl: true}, one, api.Good, nil},
		{"reserve another type", one, 5, pers.Order{Action: 1, Key: 50, Type: 5}, one, api.Conflict, nil},
		{"reserve another's", one, 2, pers.Order{Action: 1, Key: 20, Type: 6}, one, api.Conflict, nil},
		{"reserve that of all", all, 2, pers.Order{Action: 1, Key: 20, Type: 7}, all, api.Good, nil},
		{"reserve that of all as another type", all, 5, pers.Order{Action: 1, Key: 50, Type: 8}, all, api.Conflict, nil},
		{"release unregistered", one, 3, pers.Order{Action: 2, Type: 6}, one, api.Conflict, nil},
		{"release with another key", one, 5, pers.Order{Action: 2, Type: 6, Key: 20}, one, api.Conflict, nil},
		{"release nothing", free, 5, pers.Order{Action: 2, Type: 99, Key: 50}, free, api.Good, nil},
		{"release another's", one, 2, pers.Order{Action: 2, Type: 6, Key: 20}, one, api.Good, nil},
		{"release another's as another type", one, 2, pers.Order{Action: 2, Type: 1, Key: 20}, one, api.Good, nil},
		{"release as another type", one, 5, pers.Order{Action: 2, Type: 5, Key: 50}, one, api.Check, nil},
		{"release", one, 5, pers.Order{Action: 2, Type: 6, Key: 50, Aptpl: true}, api.Table{Gen: 7, Keys: one.Keys, Holder: -1}, api.Good, nil},
		{"release that of all", all, 6, pers.Order{Action: 2, Type: 7, Key: 20}, api.Table{Gen: math.MaxUint32, Keys: all.Keys, Holder: -1, Aptpl: true}, api.Good, nil},
		{"release that of all as another type", all, 6, pers.Order{Action: 2, Type: 8, Key: 20}, all, api.Check, nil},
		{"clear unregistered", one, 3, pers.Order{Action: 3}, one, api.Conflict, nil},
		{"clear with another key", one, 2, pers.Order{Action: 3, Key: 50}, one, api.Conflict, nil},
		{"clear without a reservation", free, 5, pers.Order{Action: 3, Key: 50, Type: 1, Other: 3}, api.Table{Gen: 8, Holder: -1, Aptpl: true}, api.Good, []int{2}},
		{"clear another's", one, 2, pers.Order{Action: 3, Key: 20, Aptpl: true}, api.Table{Gen: 8, Holder: -1}, api.Good, []int{5}},
		{"clear that of all", all, 5, pers.Order{Action: 3, Key: 50}, api.Table{Gen: 0, Holder: -1, Aptpl: true}, api.Good, []int{2, 6}},
		{"clear alone", api.Table{Keys: list(0, 1), Holder: 0, Type: 1}, 0, pers.Order{Action: 3, Key: 1}, api.Table{Gen: 1, Holder: -1}, api.Good, nil},
	})
}

// P10.1: Preempt and Abort, which are the same but for their numbers.
func TestPreempt(t *testing.T) {
	free := api.Table{Gen: 7, Keys: list(1, 10, 2, 20, 5, 10, 6, 60), Holder: -1, Aptpl: true}
	one := api.Table{Gen: math.MaxUint32, Keys: free.Keys, Holder: 5, Type: 1}
	all := api.Table{Gen: 7, Keys: free.Keys, Holder: 1, Type: 7, Aptpl: true}
	for _, action := range []int{pers.Preempt, pers.Abort} {
		order := func(key, other uint64, kind int) pers.Order {
			return pers.Order{Action: action, Key: key, Other: other, Type: kind}
		}
		held(t, []row{
			{"unregistered", free, 3, order(0, 10, 1), free, api.Conflict, nil},
			{"another key", free, 2, order(10, 10, 1), free, api.Conflict, nil},
			{"other 0, without a reservation", free, 2, order(20, 0, 1), free, api.Check, nil},
			{"other 0, of one's reservation", one, 2, order(20, 0, 1), one, api.Check, nil},
			{"nobody's key", free, 2, order(20, 7, 1), free, api.Conflict, nil},
			{"nobody's key, no type", one, 2, order(20, 7, 0), one, api.Conflict, nil},
			{"nobody's key, of all", all, 2, order(20, 7, 1), all, api.Conflict, nil},
			{"registrations alone", free, 2, order(20, 10, 1), api.Table{Gen: 8, Keys: list(2, 20, 6, 60), Holder: -1, Aptpl: true}, api.Good, []int{1, 5}},
			{"registrations alone, no type", one, 2, order(20, 60, 0), api.Table{Gen: 0, Keys: list(1, 10, 2, 20, 5, 10), Holder: 5, Type: 1}, api.Good, []int{6}},
			{"its own key, without a reservation", free, 1, order(10, 10, 1), api.Table{Gen: 8, Keys: list(2, 20, 6, 60), Holder: -1, Aptpl: true}, api.Good, []int{5}},
			{"its own key, alone", free, 6, order(60, 60, 1), api.Table{Gen: 8, Keys: list(1, 10, 2, 20, 5, 10), Holder: -1, Aptpl: true}, api.Good, nil},
			{"takes it, no type", one, 2, order(20, 10, 2), one, api.Check, nil},
			{"takes it", one, 2, order(20, 10, 8), api.Table{Gen: 0, Keys: list(2, 20, 6, 60), Holder: 2, Type: 8}, api.Good, []int{1, 5}},
			{"takes its own", one, 5, order(10, 10, 3), api.Table{Gen: 0, Keys: list(2, 20, 5, 10, 6, 60), Holder: 5, Type: 3}, api.Good, []int{1}},
			{"takes one of its own key", one, 1, order(10, 10, 5), api.Table{Gen: 0, Keys: list(1, 10, 2, 20, 6, 60), Holder: 1, Type: 5}, api.Good, []int{5}},
			{"takes its own, and nobody is named", api.Table{Keys: list(0, 1, 3, 3), Holder: 3, Type: 6, Aptpl: true}, 3, order(3, 3, 6), api.Table{Gen: 1, Keys: list(0, 1, 3, 3), Holder: 3, Type: 6, Aptpl: true}, api.Good, nil},
			{"of all, no type", all, 2, order(20, 0, 9), all, api.Check, nil},
			{"of all, takes it", all, 2, order(20, 0, 1), api.Table{Gen: 8, Keys: list(2, 20), Holder: 2, Type: 1, Aptpl: true}, api.Good, []int{1, 5, 6}},
			{"of all, takes it alone", api.Table{Keys: list(4, 4), Holder: 4, Type: 8}, 4, order(4, 0, 7), api.Table{Gen: 1, Keys: list(4, 4), Holder: 4, Type: 7}, api.Good, nil},
			{"of all, the Holder's key", all, 6, order(60, 10, 1), api.Table{Gen: 8, Keys: list(2, 20, 6, 60), Holder: 2, Type: 7, Aptpl: true}, api.Good, []int{1, 5}},
			{"of all, its own key, it being the Holder", all, 1, order(10, 10, 0), api.Table{Gen: 8, Keys: list(2, 20, 6, 60), Holder: 2, Type: 7, Aptpl: true}, api.Good, []int{5}},
			{"of all, the only key", api.Table{Keys: list(2, 9, 4, 9), Holder: 4, Type: 8}, 2, order(9, 9, 1), api.Table{Gen: 1, Holder: -1}, api.Good, []int{4}},
		})
	}
}

// P10.1: Busy with six registrations, whichever they are, to all who aren't registered; not to those who are, nor ahead of what is told first.
func TestBusy(t *testing.T) {
	for x := range 8 {
		for y := range x {
			w := telling{holder: (x + 1) % 8, kind: 5}
			for n := range 8 {
				w.key[n] = uint64(n + 1)
			}
			w.key[x], w.key[y] = 0, 0
			if w.holder == y {
				w.holder, w.kind = -1, 0
			}
			for n := range 8 {
				for _, o := range []pers.Order{{Other: 9}, {Action: 6, Other: 9}, {Other: 9, Key: 1}, {}, {Action: 6}, {Key: uint64(n + 1), Other: 9}, {Key: uint64(n + 1)}} {
					_, s := acted(t, w, n, o)
					if busy := (n == x || n == y) && o.Other != 0 && (o.Key == 0 || o.Action == 6); busy != (s == api.Busy) {
						t.Fatalf("of %v nexus %d's %v is %d", w, n, o, s)
					}
				}
			}
			w.key[(x+1)%8], w.key[x], w.key[y] = 0, 0, 0
			w.holder, w.kind = -1, 0
			if w.count() < 6 {
				if _, s := acted(t, w, x, pers.Order{Other: 1}); s != api.Good {
					t.Fatalf("of %v a register is %d", w, s)
				}
			}
		}
	}
}

// P10.1, P10.2: each order of all tables of few nexuses, also of one that isn't registered.
func TestAllOrders(t *testing.T) {
	keys := []uint64{1, 1 << 40}
	for i, w := range few([]int{0, 3, 7}, keys) {
		w.gen, w.aptpl = uint32(i), i%2 == 0
		for action := -1; action <= 7; action++ {
			for kind := range 10 {
				for j := range 64 {
					other := []uint64{0, keys[0], keys[1], 5}
					o := pers.Order{Action: action, Type: kind, Key: other[j%4], Other: other[j/4%4], Aptpl: (i+kind)%3 == 0}
					acted(t, w, []int{0, 3, 5, 7}[j/16], o)
				}
			}
		}
	}
}

// P10.1: types and actions that are none, however great.
func TestOddOrders(t *testing.T) {
	for _, w := range few([]int{2, 6}, []uint64{1}) {
		for _, n := range append(beyond(9), -1, 0, 2, 4) {
			for action := range 7 {
				for j := range 16 {
					acted(t, w, 1+j%3, pers.Order{Action: action, Type: n, Key: uint64(j / 4 % 2), Other: uint64(j / 8)})
				}
			}
		}
		for _, n := range append(beyond(7), -1) {
			acted(t, w, 2, pers.Order{Action: n, Type: 1, Key: 1, Other: 1})
			acted(t, w, 3, pers.Order{Action: n, Type: 1, Key: 0, Other: 1})
		}
	}
}

// P10.1, P10.2, P10.3: long runs of orders, each on what the one ahead made, with up to six registrations and keys that are shared.
func TestRuns(t *testing.T) {
	for seed := range 300 {
		next := chance(seed)
		keys := []uint64{1, 2, 3, math.MaxUint64, 1 << 32}[:1+seed%5]
		w := telling{holder: -1, gen: uint32(math.MaxUint32 - next(40))}
		for range 600 {
			nexus := next(8)
			o := pers.Order{Action: next(8), Type: types[next(6)], Key: w.key[nexus], Aptpl: next(2) == 0}
			if o.Action == 7 || o.Action == 3 && next(4) > 0 {
				o.Action = pers.Ignore
			}
			if next(8) > 0 {
				o.Other = keys[next(len(keys))]
			}
			if next(10) == 0 {
				o.Key = keys[next(len(keys))]
			}
			if next(20) == 0 {
				o.Type = next(12) - 1
			}
			v, status := acted(t, w, nexus, o)
			if status != api.Good && v != w {
				t.Fatalf("%d changes %v", status, w)
			}
			w = v
			kept(t, w.table())
			for n := -1; n < 9; n++ {
				do := next(14)
				if pers.Bars(w.table(), n, do) != w.bars(n, do) || pers.Holds(w.table(), n) != w.holds(n) {
					t.Fatalf("of %v nexus %d holds %v, is barred from %d %v", w, n, pers.Holds(w.table(), n), do, pers.Bars(w.table(), n, do))
				}
			}
		}
	}
}

// P10.1: what is answered hangs on the table and the order alone, not on what was asked ahead.
func TestNothingIsKept(t *testing.T) {
	next := chance(77)
	w := someTelling(next, []uint64{1, 2})
	for range 2000 {
		acted(t, w, next(8), pers.Order{Action: next(7), Type: next(9), Key: uint64(next(3)), Other: uint64(next(3))})
	}
}

// roomy is a list with room behind it, in which a registration is that tells whether somebody wrote there.
func roomy(l []api.Registrant) []api.Registrant {
	room := append(slices.Clone(l), list(99, 99, 98, 98, 97, 97)...)
	return room[:len(l)]
}

// P10.1, rule 4: the list that is handed in isn't changed, nor the room behind it; and what is answered shares nothing with it.
func TestListsHandedIn(t *testing.T) {
	for i, w := range few([]int{1, 4, 6}, []uint64{1, 2}) {
		for action := range 8 {
			for j := range 36 {
				x := w.table()
				x.Keys = roomy(x.Keys)
				before := slices.Clone(x.Keys[:cap(x.Keys)])
				o := pers.Order{Action: action, Type: types[(i+j)%6], Key: uint64(j % 3), Other: uint64(j / 3 % 3)}
				nexus := []int{0, 1, 4, 7}[j/9]
				y, _, gone := pers.Act(x, nexus, o)
				for k := range y.Keys {
					y.Keys[k] = api.Registrant{Nexus: 50, Key: 50}
				}
				_ = append(y.Keys, list(51, 51)...)
				_ = append(gone, 9, 9, 9)
				if !slices.Equal(x.Keys[:cap(x.Keys)], before) {
					t.Fatalf("nexus %d's %v makes %v of %v", nexus, o, x.Keys[:cap(x.Keys)], before)
				}
			}
		}
		x := w.table()
		x.Keys = roomy(x.Keys)
		before := slices.Clone(x.Keys[:cap(x.Keys)])
		_, _, _ = pers.Sound(x), pers.Holds(x, 1), pers.Bars(x, 1, 7)
		_ = pers.Page(x)
		if !slices.Equal(x.Keys[:cap(x.Keys)], before) {
			t.Fatalf("%v became %v", before, x.Keys)
		}
	}
}

// P10.3, rule 4: lists that are answered are new memory.
func TestListsAnswered(t *testing.T) {
	p := pers.Page(api.Table{Keys: list(1, 1, 2, 2), Holder: 1, Type: 1})
	x, y := pers.Read(p), pers.Read(p)
	x.Keys[0].Key = 9
	if y.Keys[0].Key != 1 || pers.Read(p).Keys[0].Key != 1 {
		t.Error("two tables that were read share a list")
	}
}

// kept holds Read(Page(x)) against x.
func kept(t testing.TB, x api.Table) {
	t.Helper()
	want := x
	want.Aptpl = true
	if got := pers.Read(pers.Page(x)); !same(got, want) {
		t.Fatalf("of %v is read %v", x, got)
	}
}

// P10.3: all tables of few nexuses, and of each set of up to six, can be read from their pages, whether they are to last or not.
func TestReadPage(t *testing.T) {
	l := few([]int{0, 3, 7}, []uint64{1, 2})
	l = append(l, few([]int{0, 1, 2, 3, 4, 5, 6, 7}, []uint64{3})...)
	for _, w := range l {
		kept(t, w.table())
		w.aptpl = true
		kept(t, w.table())
	}
}

// P10.3: each bit of Gen and of each key is kept.
func TestEachBit(t *testing.T) {
	for bit := range 32 {
		kept(t, api.Table{Gen: 1 << bit, Holder: -1})
		kept(t, api.Table{Gen: ^uint32(1 << bit), Holder: 7, Type: 8, Keys: list(7, 7)})
	}
	for bit := range 64 {
		w := telling{gen: math.MaxUint32, holder: -1}
		for n := range 6 {
			w.key[n+bit%3] = 1 << bit
			kept(t, w.table())
			v := w
			v.key[n+bit%3] = ^uint64(1 << bit)
			kept(t, v.table())
		}
	}
}

// P10.3: whatever tables can be.
func TestReadPageOfMany(t *testing.T) {
	next := chance(5)
	keys := []uint64{1, 255, 256, 1 << 63, math.MaxUint64, 0x0102030405060708, 0xF0E0D0C0B0A09080}
	for range 30000 {
		kept(t, someTelling(next, keys).table())
	}
}

// P10.1, P10.3: a page of zeros says none; that of a table of nothing says that table, which is to last.
func TestPageOfNothing(t *testing.T) {
	if x := pers.Read(disk.Page{}); !same(x, pers.None()) {
		t.Errorf("a page of zeros says %v", x)
	}
	if x := pers.Read(pers.Page(pers.None())); !same(x, api.Table{Holder: -1, Aptpl: true}) {
		t.Errorf("the page of none says %v", x)
	}
}

// P0, P10.3: whatever bytes a page has, what is read can be; it is none, or it can be kept and read once more.
func TestReadWhatever(t *testing.T) {
	looked := func(p disk.Page) {
		x := pers.Read(p)
		if !pers.Sound(x) {
			t.Fatalf("of %v is read %v, which can't be", p, x)
		}
		if x.Aptpl {
			kept(t, x)
		} else if !same(x, pers.None()) {
			t.Fatalf("of %v is read %v", p, x)
		}
	}
	next := chance(8)
	for range 200 {
		whole := pers.Page(someTelling(next, []uint64{1, 1 << 63, math.MaxUint64}).table())
		for bit := range 8 * len(whole) {
			p := whole
			p[bit/8] ^= 1 << (bit % 8)
			looked(p)
			p[next(64)] = byte(next(256))
			looked(p)
		}
	}
	for i := range 30000 {
		var p disk.Page
		for j := range p {
			p[j] = byte(next([]int{1, 2, 3, 9, 256}[(i+j/8)%5]))
		}
		looked(p)
	}
	for x := range 256 {
		var p disk.Page
		for j := range p {
			p[j] = byte(x)
		}
		looked(p)
	}
}

// P0: tables that can't be, and nexuses that there aren't: no call panics; what can be is changed to what can be, and with a status that isn't Good nothing is.
func TestOddTables(t *testing.T) {
	next := chance(3)
	odd := append(beyond(8), -1, 0, 1, 2, 3, 4, 5, 6, 7)
	for range 3000 {
		x := api.Table{Gen: uint32(next(1 << 32)), Holder: odd[next(len(odd))], Type: odd[next(len(odd))]}
		for range next(12) {
			x.Keys = append(x.Keys, api.Registrant{Nexus: odd[next(len(odd))], Key: uint64(next(3))})
		}
		if next(3) == 0 {
			x = someTelling(next, []uint64{1, 2}).table()
		}
		for range 40 {
			n := odd[next(len(odd))]
			y, s, gone := pers.Act(x, n, pers.Order{Action: next(10) - 1, Type: next(10), Key: uint64(next(3)), Other: uint64(next(3))})
			if pers.Sound(x) && !pers.Sound(y) {
				t.Fatalf("nexus %d makes %v of %v", n, y, x)
			}
			// What Act answers of these the chapter doesn't say; that an order isn't done is this program's choice.
			if (!pers.Sound(x) || n < 0 || n > 7) && s != api.Check {
				t.Fatalf("of %v nexus %d's order is %d", x, n, s)
			}
			if s != api.Good && (!same(x, y) || len(gone) > 0) {
				t.Fatalf("%d, and nexus %d makes %v of %v, %v", s, n, y, x, gone)
			}
			_ = pers.Bars(x, n, next(20)-3)
			if pers.Holds(x, n) && pers.Bars(x, n, next(20)-3) {
				t.Fatalf("of %v nexus %d holds, and is barred", x, n)
			}
		}
		_ = pers.Read(pers.Page(x))
	}
}
