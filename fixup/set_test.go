package fixup_test

import (
	"math"
	"slices"
	"strings"
	"testing"

	"clevis/api"
	"clevis/fixup"
)

// P12.2 (Set, Same, Meet)

// ranged asks that Set answers those fixups, in any order of what is handed in.
func ranged(t *testing.T, what string, want []api.Fixup, l ...api.Fixup) {
	t.Helper()
	if s := checkSet(t, l...); !slices.Equal(s, want) {
		t.Errorf("%s: %+v, want %+v", what, s, want)
	}
	for i := range l {
		checkSet(t, append(slices.Clone(l[i:]), l[:i]...)...)
	}
	slices.Reverse(l)
	if s := checkSet(t, l...); !slices.Equal(s, want) {
		t.Errorf("%s, turned round: %+v, want %+v", what, s, want)
	}
}

func TestSet(t *testing.T) {
	a, b, c := bind(8, 1, "a", 0), rebase(16, 0), rebase(24, 9)
	ranged(t, "none", nil)
	ranged(t, "one", []api.Fixup{a}, a)
	ranged(t, "one twice", []api.Fixup{a}, a, a)
	ranged(t, "one many times", []api.Fixup{a}, a, a, a, a, a)
	ranged(t, "two", []api.Fixup{a, b}, b, a)
	ranged(t, "two, each twice", []api.Fixup{a, b}, b, a, a, b)
	ranged(t, "three", []api.Fixup{a, b, c}, b, c, a)
	ranged(t, "three, some twice", []api.Fixup{a, b, c}, c, b, a, c, a)
	ranged(t, "two at one address", []api.Fixup{rebase(8, 5), a}, a, rebase(8, 5), a)
	ranged(t, "weak and not weak", []api.Fixup{a, weakly(a)}, weakly(a), a, weakly(a))
	ranged(t, "great addresses", []api.Fixup{a, rebase(1<<63, 0), rebase(math.MaxUint64, 0)}, rebase(math.MaxUint64, 0), a, rebase(1<<63, 0))
	ranged(t, "addends below 0", []api.Fixup{bind(8, 1, "a", -1), a, bind(8, 1, "a", 1)}, bind(8, 1, "a", 1), a, bind(8, 1, "a", -1))
	ranged(t, "ordinals below 0", []api.Fixup{bind(8, -3, "a", 0), bind(8, -2, "z", 0), bind(8, 0, "a", 0), a}, a, bind(8, -2, "z", 0), bind(8, 0, "a", 0), bind(8, -3, "a", 0))
}

// TestSetOfWhatMayNotBe: the order is one of any two, and so the set is one of any.
func TestSetOfWhatMayNotBe(t *testing.T) {
	none, third := api.Fixup{}, api.Fixup{Kind: 3, Symbol: "\x00"}
	ranged(t, "nothing", []api.Fixup{none}, none, none)
	ranged(t, "some that may not be", []api.Fixup{none, rebase(0, 1), bind(0, 99, "", 0), third}, third, rebase(0, 1), none, bind(0, 99, "", 0), none)
}

// TestSetOfEachOrder: all rows of at most five of some fixups.
func TestSetOfEachOrder(t *testing.T) {
	few := []api.Fixup{rebase(8, 1), bind(8, 1, "a", 0), bind(8, 1, "b", 0), weakly(bind(8, 1, "b", 0)), rebase(15, 1), rebase(16, 1)}
	var l []api.Fixup
	var longer func()
	longer = func() {
		checkSet(t, l...)
		if len(l) == 5 {
			return
		}
		for _, f := range few {
			l = append(l, f)
			longer()
			l = l[:len(l)-1]
		}
	}
	longer()
}

// many are so many fixups, no two of them the same, not in their order.
func many(n int) []api.Fixup {
	var l []api.Fixup
	for i := range n {
		k := uint64(i*7919%n) + 1
		switch i % 4 {
		case 0:
			l = append(l, rebase(k*8, k<<40))
		case 1:
			l = append(l, bind(k*8, int(k%68)-3, strings.Repeat("s", 1+int(k%255)), -int64(k)))
		case 2:
			l = append(l, weakly(bind(k*8, int(k%68)-3, "_"+string(rune('a'+k%26)), int64(k))))
		default:
			l = append(l, bind(k/5*8, 1, "a", int64(k)))
		}
	}
	return l
}

// TestSetOfMany: as many as an image has, and more; a number that no divisor of many has a part in.
func TestSetOfMany(t *testing.T) {
	for _, n := range []int{1, 2, 12, 13, 50, 99, 1000, 20000, 20001, 100000} {
		l := many(n)
		s := checkSet(t, append(l, l...)...)
		if len(s) != n || !slices.IsSortedFunc(s, fixup.Order) {
			t.Errorf("of %d: %d", n, len(s))
		}
	}
	l := slices.Repeat([]api.Fixup{rebase(8, 1)}, 1<<20)
	if s := fixup.Set(l...); len(s) != 1 || s[0] != l[0] {
		t.Errorf("one many times: %d", len(s))
	}
}

// TestSetIsNewMemory: what is answered shares none with what is handed in, be it in its order or not.
func TestSetIsNewMemory(t *testing.T) {
	for _, l := range [][]api.Fixup{
		{rebase(8, 1)},
		{rebase(8, 1), rebase(16, 1)},
		{rebase(16, 1), rebase(8, 1), rebase(8, 1)},
	} {
		before := slices.Clone(l)
		s := fixup.Set(l...)
		for i := range s[:cap(s)] {
			s[:cap(s)][i] = bind(7, 7, "seven", 7)
		}
		if !slices.Equal(l, before) {
			t.Errorf("%+v was %+v", l, before)
		}
		s = fixup.Set(l...)
		want := slices.Clone(s)
		for i := range l {
			l[i] = bind(7, 7, "seven", 7)
		}
		if !slices.Equal(s, want) {
			t.Errorf("%+v was %+v", s, want)
		}
	}
	// What stands behind a part of a list is not its.
	l := []api.Fixup{rebase(16, 1), rebase(8, 1), rebase(0, 1), rebase(0, 0)}
	before := slices.Clone(l)
	_ = append(fixup.Set(l[:2]...), rebase(9, 9))
	fixup.Same(l[:3], l[:2])
	fixup.Meet(l[:3]...)
	if !slices.Equal(l, before) {
		t.Errorf("%+v was %+v", l, before)
	}
}

func TestSame(t *testing.T) {
	a, b, c := bind(8, 1, "a", 0), rebase(16, 0), rebase(24, 9)
	for _, x := range []struct {
		what string
		a, b []api.Fixup
		want bool
	}{
		{"none", nil, nil, true},
		{"none and no list", nil, []api.Fixup{}, true},
		{"none and one", nil, []api.Fixup{a}, false},
		{"none and nothing", nil, []api.Fixup{{}}, false},
		{"one", []api.Fixup{a}, []api.Fixup{a}, true},
		{"one and it twice", []api.Fixup{a}, []api.Fixup{a, a}, true},
		{"one and another", []api.Fixup{a}, []api.Fixup{b}, false},
		{"two", []api.Fixup{a, b}, []api.Fixup{a, b}, true},
		{"two, turned round", []api.Fixup{a, b}, []api.Fixup{b, a}, true},
		{"two, some twice", []api.Fixup{a, b, a}, []api.Fixup{b, b, a}, true},
		{"one more", []api.Fixup{a, b}, []api.Fixup{a, b, c}, false},
		{"one more ahead", []api.Fixup{b, c}, []api.Fixup{a, b, c}, false},
		{"as many, not the same twice", []api.Fixup{a, a, b}, []api.Fixup{a, b, c}, false},
		{"weak and not weak", []api.Fixup{a}, []api.Fixup{weakly(a)}, false},
		{"another address", []api.Fixup{rebase(8, 1)}, []api.Fixup{rebase(9, 1)}, false},
		{"another target", []api.Fixup{rebase(8, 1)}, []api.Fixup{rebase(8, 1+1<<56)}, false},
		{"another kind", []api.Fixup{{Kind: 1}}, []api.Fixup{{Kind: 2}}, false},
		{"another ordinal", []api.Fixup{bind(8, 1, "a", 0)}, []api.Fixup{bind(8, -1, "a", 0)}, false},
		{"another symbol", []api.Fixup{bind(8, 1, "a", 0)}, []api.Fixup{bind(8, 1, "A", 0)}, false},
		{"another addend", []api.Fixup{bind(8, 1, "a", 0)}, []api.Fixup{bind(8, 1, "a", 1)}, false},
		{"of what may not be", []api.Fixup{{}, {Kind: 3}}, []api.Fixup{{Kind: 3}, {}, {}}, true},
	} {
		if fixup.Same(x.a, x.b) != x.want {
			t.Errorf("%s: are they the same? %v", x.what, !x.want)
		}
		checkSame(t, x.a, x.b)
	}
}

// TestSameOfEach: all two lists of at most three of some fixups.
func TestSameOfEach(t *testing.T) {
	few := []api.Fixup{rebase(8, 1), bind(8, 1, "a", 0), weakly(bind(8, 1, "a", 0)), rebase(9, 1)}
	lists := [][]api.Fixup{nil}
	for i := 0; len(lists[i]) < 3; i++ {
		for _, f := range few {
			lists = append(lists, append(slices.Clone(lists[i]), f))
		}
	}
	for _, a := range lists {
		for _, b := range lists {
			checkSame(t, a, b)
		}
	}
}

// TestSameOfMany: one of many is another one.
func TestSameOfMany(t *testing.T) {
	l := many(20000)
	turned := slices.Clone(l)
	slices.Reverse(turned)
	if !fixup.Same(l, turned) || !fixup.Same(append(turned, l[5]), l) || fixup.Same(l, turned[1:]) {
		t.Error("turned round")
	}
	for _, i := range []int{0, 1, 10000, 19999} {
		other := slices.Clone(l)
		other[i].Weak = !other[i].Weak
		if fixup.Same(l, other) || fixup.Same(other, turned) {
			t.Errorf("%d: the same", i)
		}
	}
}

func TestMeet(t *testing.T) {
	const end = math.MaxUint64
	for _, x := range []struct {
		what string
		l    []api.Fixup
		want bool
	}{
		{"none", nil, false},
		{"one", []api.Fixup{rebase(8, 1)}, false},
		{"one twice", []api.Fixup{rebase(8, 1), rebase(8, 1)}, false},
		{"two at one address", []api.Fixup{rebase(8, 1), rebase(8, 2)}, true},
		{"two kinds at one address", []api.Fixup{rebase(8, 1), bind(8, 1, "a", 0)}, true},
		{"weak and not weak", []api.Fixup{bind(8, 1, "a", 0), weakly(bind(8, 1, "a", 0))}, true},
		{"1 apart", []api.Fixup{rebase(8, 1), rebase(9, 1)}, true},
		{"7 apart", []api.Fixup{rebase(8, 1), rebase(15, 1)}, true},
		{"8 apart", []api.Fixup{rebase(8, 1), rebase(16, 1)}, false},
		{"9 apart", []api.Fixup{rebase(8, 1), rebase(17, 1)}, false},
		{"three, 8 apart", []api.Fixup{rebase(8, 1), rebase(16, 1), rebase(24, 1)}, false},
		{"the last two of three", []api.Fixup{rebase(8, 1), rebase(16, 1), rebase(23, 1)}, true},
		{"the first two of three", []api.Fixup{rebase(8, 1), rebase(12, 1), rebase(40, 1)}, true},
		{"not in their order", []api.Fixup{rebase(32, 1), rebase(8, 1), rebase(64, 1), rebase(37, 1)}, true},
		{"not in their order, apart", []api.Fixup{rebase(32, 1), rebase(8, 1), rebase(64, 1), rebase(16, 1)}, false},
		{"some twice, apart", []api.Fixup{rebase(32, 1), rebase(8, 1), rebase(32, 1), rebase(8, 1)}, false},
		{"far apart", []api.Fixup{rebase(0, 1), rebase(1<<32+1, 1), rebase(1<<63, 1)}, false},
		{"the ends of all", []api.Fixup{rebase(0, 1), rebase(end, 1)}, false},
		{"nearly the ends of all", []api.Fixup{rebase(3, 1), rebase(end-3, 1)}, false},
		{"at the end", []api.Fixup{rebase(end, 1), rebase(end-7, 1)}, true},
		{"at the end, apart", []api.Fixup{rebase(end, 1), rebase(end-8, 1)}, false},
		{"across the middle", []api.Fixup{rebase(1<<63, 1), rebase(1<<63-7, 1)}, true},
		{"across the middle, apart", []api.Fixup{rebase(1<<63, 1), rebase(1<<63-8, 1)}, false},
		{"of what may not be", []api.Fixup{{}, {At: 7}}, true},
		{"of what may not be, apart", []api.Fixup{{}, {At: 8}}, false},
	} {
		if fixup.Meet(x.l...) != x.want {
			t.Errorf("%s: do they meet? %v", x.what, !x.want)
		}
		checkSet(t, x.l...)
		slices.Reverse(x.l)
		checkSet(t, x.l...)
	}
}

// TestMeetOfEach: each two and each three addresses of some.
func TestMeetOfEach(t *testing.T) {
	for a := range uint64(30) {
		for b := range uint64(30) {
			checkSet(t, rebase(a, 1), rebase(b, 1))
			checkSet(t, rebase(math.MaxUint64-a, 1), rebase(b, 1))
			checkSet(t, rebase(a, 1), rebase(b, 2))
			for c := range uint64(30) {
				l := []api.Fixup{rebase(a, 1), rebase(b, 1), rebase(c, 1)}
				if is := fixup.Meet(l...); is != wantMeet(l) {
					t.Fatalf("do %+v meet? %v", l, is)
				}
			}
		}
	}
}

// TestMeetOfMany: two of them are the only ones.
func TestMeetOfMany(t *testing.T) {
	var l []api.Fixup
	for i := range uint64(20000) {
		l = append(l, rebase(i*7919%20000*8, i))
	}
	if fixup.Meet(l...) || fixup.Meet(append(l, l...)...) {
		t.Error("those 8 apart meet")
	}
	for _, i := range []int{0, 1, 10000, 19999} {
		near := slices.Clone(l)
		near[i].At++
		if is := fixup.Meet(near...); is != (near[i].At != 19999*8+1) {
			t.Errorf("%d: do they meet? %v", i, is)
		}
		if !fixup.Meet(append(near, rebase(l[i].At, 1<<60))...) {
			t.Errorf("%d: do they not meet?", i)
		}
	}
}
