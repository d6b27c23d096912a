package fixup_test

import (
	"cmp"
	"slices"
	"testing"

	"clevis/api"
	"clevis/fixup"
)

// P12.4 (what follows)

// TestOrderIsOne: of three, none comes ahead of what it is behind; unlike ones are never alike.
func TestOrderIsOne(t *testing.T) {
	l := some()
	for i := range l {
		for k := 1; k < 40; k++ {
			a, b, c := l[i], l[(i+k*k)%len(l)], l[(i+k*37)%len(l)]
			ab, bc, ac := fixup.Order(a, b), fixup.Order(b, c), fixup.Order(a, c)
			if ab <= 0 && bc <= 0 && ac > 0 || ab >= 0 && bc >= 0 && ac < 0 {
				t.Fatalf("%+v, %+v, %+v: %d, %d, %d", a, b, c, ab, bc, ac)
			}
			if ab < -1 || ab > 1 || (ab == 0) != (a == b) || fixup.Order(b, a) != -ab {
				t.Fatalf("%+v, %+v: %d, %d", a, b, ab, fixup.Order(b, a))
			}
		}
	}
	s := checkSet(t, l...)
	if len(s) != len(l) {
		t.Errorf("%d of %d", len(s), len(l))
	}
	for i := range s {
		for k := range 30 {
			if other := i + k*k; other < len(s) && fixup.Order(s[i], s[other]) != cmp.Compare(i, other) {
				t.Fatalf("%+v, %+v: not in their order", s[i], s[other])
			}
		}
	}
}

// TestOfOfTextIsTheFixup: of each that may be; no two of which have the same text.
func TestOfOfTextIsTheFixup(t *testing.T) {
	met := map[string]api.Fixup{}
	for _, f := range append(some(), many(5000)...) {
		s := fixup.Text(f)
		if (s == "") == fixup.May(f) {
			t.Fatalf("%+v: %q", f, s)
		}
		if s == "" {
			continue
		}
		if x, err := checkOf(t, s); x != f || err != api.OK {
			t.Fatalf("Of %q: %+v (%v), want %+v", s, x, err, f)
		}
		if k, is := met[s]; is && k != f {
			t.Fatalf("%+v, %+v: both are %q", f, k, s)
		}
		met[s] = f
	}
	for s, f := range texts() {
		if x, err := fixup.Of(fixup.Text(f)); x != f || err != api.OK || fixup.Text(x) != s {
			t.Errorf("%+v: %+v (%v)", f, x, err)
		}
	}
}

// TestASetsSetIsIt, and those of its parts, put together in any way, are.
func TestASetsSetIsIt(t *testing.T) {
	l := append(many(700), some()...)
	s := fixup.Set(l...)
	if !slices.Equal(fixup.Set(s...), s) {
		t.Error("the set of the set is another one")
	}
	for i := 0; i <= len(l); i += 19 {
		a, b := fixup.Set(l[:i]...), fixup.Set(l[i:]...)
		if both := fixup.Set(append(b, a...)...); !slices.Equal(both, s) || !fixup.Same(both, l) {
			t.Fatalf("of %d and of the others: another one", i)
		}
		if part := s[:i*len(s)/len(l)]; !slices.Equal(fixup.Set(part...), part) || fixup.Same(part, s) != (len(part) == len(s)) {
			t.Fatalf("of the first %d: another one", i)
		}
	}
}
