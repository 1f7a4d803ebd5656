package dimacs

import (
	"math"
	"math/rand"
	"slices"
	"strconv"
	"strings"
	"testing"

	"threshing/api"
)

// plainValues is the chapter's definition by other means: all words first, then lines of as many as fit.
func plainValues(m api.Model) string {
	var words []string
	for i, positive := range m {
		w := strconv.Itoa(i + 1)
		if !positive {
			w = "-" + w
		}
		words = append(words, w)
	}
	words = append(words, "0")
	s := ""
	var out strings.Builder
	for len(words) > 0 {
		n := 1
		s = "v " + words[0]
		for n < len(words) && len(s+" "+words[n]) <= 78 {
			s += " " + words[n]
			n++
		}
		out.WriteString(s + "\n")
		words = words[n:]
	}
	return out.String()
}

// manyTimes is a model of n variables, all of them with this value.
func manyTimes(n int, value bool) api.Model {
	m := make(api.Model, n)
	for i := range m {
		m[i] = value
	}
	return m
}

func TestValues(t *testing.T) {
	for _, x := range []struct {
		m api.Model
		s string
	}{
		{nil, "v 0\n"},
		{api.Model{}, "v 0\n"},
		{api.Model{true}, "v 1 0\n"},
		{api.Model{false}, "v -1 0\n"},
		{api.Model{true, false, true}, "v 1 -2 3 0\n"},
		{manyTimes(12, false), "v -1 -2 -3 -4 -5 -6 -7 -8 -9 -10 -11 -12 0\n"},
	} {
		if s := Values(x.m); s != x.s {
			t.Errorf("Values(%v) = %q, want %q", x.m, s, x.s)
		}
	}
}

func TestValuesWidth(t *testing.T) {
	// v, 9 words of one digit and 19 of two have 1 + 18 + 57 = 76 bytes: with 0 they have 78.
	full := "v 1 2 3 4 5 6 7 8 9 10 11 12 13 14 15 16 17 18 19 20 21 22 23 24 25 26 27 28 0\n"
	if len(full) != 79 {
		t.Fatalf("the test's line has %d bytes", len(full))
	}
	if s := Values(manyTimes(28, true)); s != full {
		t.Errorf("78 bytes: %q", s)
	}
	// One byte more, by one - : 0 has no room, and gets a line of its own.
	m := manyTimes(28, true)
	m[3] = false
	if s, want := Values(m), strings.Replace(full[:len(full)-3], " 4 ", " -4 ", 1)+"\nv 0\n"; s != want {
		t.Errorf("79 bytes: %q, want %q", s, want)
	}
	// With one variable more it is not 0 that has no room, but 29.
	if s, want := Values(manyTimes(29, true)), full[:len(full)-3]+"\nv 29 0\n"; s != want {
		t.Errorf("29 variables: %q, want %q", s, want)
	}
	// A variable, not 0, that ends at the 78th byte, and one that would end at the 79th.
	m = manyTimes(40, true)
	m[0], m[1] = false, false
	if s, want := Values(m), "v -1 -2 3 4 5 6 7 8 9 10 11 12 13 14 15 16 17 18 19 20 21 22 23 24 25 26 27 28\nv 29 30 31 32 33 34 35 36 37 38 39 40 0\n"; s != want {
		t.Errorf("78 bytes without 0: %q, want %q", s, want)
	}
	m[2] = false
	if s, want := Values(m), "v -1 -2 -3 4 5 6 7 8 9 10 11 12 13 14 15 16 17 18 19 20 21 22 23 24 25 26 27\nv 28 29 30 31 32 33 34 35 36 37 38 39 40 0\n"; s != want {
		t.Errorf("79 bytes without 0: %q, want %q", s, want)
	}
}

func TestValuesAsDefined(t *testing.T) {
	r := rand.New(rand.NewSource(23))
	for n := range 400 {
		m := make(api.Model, n)
		for i := range m {
			m[i] = r.Intn(2) == 1
		}
		for _, m := range []api.Model{m, manyTimes(n, true), manyTimes(n, false)} {
			s := Values(m)
			if s != plainValues(m) {
				t.Fatalf("Values(%v) = %q", m, s)
			}
			back, e := Model(s, n)
			if e != api.OK || !slices.Equal(back, m) {
				t.Fatalf("Model(%q, %d) = %v, %d", s, n, back, e)
			}
		}
	}
}

func TestValuesMost(t *testing.T) {
	m := manyTimes(api.MaxVar, false)
	m[7] = true
	s := Values(m)
	if s != plainValues(m) {
		t.Errorf("as many variables as may be: %d bytes", len(s))
	}
	if back, e := Model(s, api.MaxVar); e != api.OK || !slices.Equal(back, m) {
		t.Errorf("Model: %d values, %d", len(back), e)
	}
	// Values has no limit of its own; Model's is one of vars, not of the text.
	s = Values(manyTimes(api.MaxVar+1, true))
	if !strings.HasSuffix(s, " 1048577 0\n") {
		t.Errorf("one more: %q", s[len(s)-40:])
	}
	if back, e := Model(s, api.MaxVar); e != api.ErrWord || len(back) != 0 {
		t.Errorf("Model of one more: %d values, %d", len(back), e)
	}
}

func TestModel(t *testing.T) {
	for _, x := range []struct {
		s    string
		vars int
		m    api.Model
	}{
		{"v 0\n", 0, nil},
		{"v 1 0\n", 1, api.Model{true}},
		{"v -1 0\n", 1, api.Model{false}},
		{"v 1 -2 3 0\n", 3, api.Model{true, false, true}},
	} {
		if m, e := Model(x.s, x.vars); e != api.OK || !slices.Equal(m, x.m) {
			t.Errorf("Model(%q, %d) = %v, %d, want %v", x.s, x.vars, m, e, x.m)
		}
	}
}

func TestModelArg(t *testing.T) {
	for _, vars := range []int{-1, math.MinInt, api.MaxVar + 1, math.MaxInt} {
		for _, s := range []string{"", "v 0\n", "x", "v 1 0\n"} {
			if m, e := Model(s, vars); e != api.ErrArg || len(m) != 0 {
				t.Errorf("Model(%q, %d) = %v, %d", s, vars, m, e)
			}
		}
	}
	// One past the limit it is the number that counts, though the text is right.
	if m, e := Model(Values(manyTimes(api.MaxVar+1, true)), api.MaxVar+1); e != api.ErrArg || len(m) != 0 {
		t.Errorf("Model of one variable too many: %d values, %d", len(m), e)
	}
}

// noModel asks that s is no model of so many variables.
func noModel(t *testing.T, s string, vars int) {
	t.Helper()
	if m, e := Model(s, vars); e != api.ErrWord || len(m) != 0 {
		t.Errorf("Model(%q, %d) = %v, %d", s, vars, m, e)
	}
}

func TestModelWord(t *testing.T) {
	for _, s := range []string{
		"", "\n", "v", "v\n", "v 0", "v 0 \n", " v 0\n", "v  0\n", "v\t0\n", "v 0\r\n", "v 0\n\n", "\nv 0\n", "v 0\nv 0\n", "v 0\nx", "c\nv 0\n", "v 0\nc\n", "v -0\n", "v 00\n", "V 0\n", "0\n", "v 0 0\n",
		"v 1 -2 3 0", "v 1 -2 3\n", "v 1 -2 3 0 \n", "v 1 -2 3  0\n", "v 1 -2 3 0\n ", "v 1 -2 3 0\nv\n", "v 1 -2\nv 3 0\n", "v 1 -2 3\nv 0\n", "1 -2 3 0\n", "1 -2 3 0 v\n", "v 1 v -2 3 0\n",
		"v 1 -2 3 4 0\n", "v 1 -2 0\n", "v 1 -2 0 3\n", "v 1 -3 2 0\n", "v 1 -2 -2 0\n", "v 1 -2 3 3 0\n", "v 1 -2 +3 0\n", "v 1 -2 03 0\n", "v 1 --2 3 0\n", "v 1 - 2 3 0\n", "v x -x x 0\n", "v 1 -2 -x 0\n", "v 2 -3 4 0\n", "v 0 -1 2 0\n", "\xff", "v \x00 - 3 0\n",
	} {
		noModel(t, s, 3)
		if s != "v 1 -2 0\n" {
			noModel(t, s, 2)
		}
		noModel(t, s, 0)
	}
	noModel(t, "v 1 0\n", 0)
	noModel(t, "v 1 0\n", 2)
	noModel(t, "v 0\n", 1)
	noModel(t, "v 1 0\n", api.MaxVar)
}

// Each byte of right lines counts: another one, one less or one more is another model at most, and then Values tells that.
func TestModelEachByte(t *testing.T) {
	for _, n := range []int{0, 3, 28, 29, 60} {
		s := Values(manyTimes(n, true))
		for i := 0; i <= len(s); i++ {
			for _, c := range []byte("v0129- \n\tx") {
				asTold(t, s[:i]+string(c)+s[i:], n)
				if i < len(s) {
					asTold(t, s[:i]+string(c)+s[i+1:], n)
				}
			}
			if i < len(s) {
				asTold(t, s[:i]+s[i+1:], n)
			}
			asTold(t, s[:i], n)
		}
	}
}

// asTold holds Model against the definition: one of the models of n variables has these values, or none has.
func asTold(t *testing.T, s string, n int) {
	t.Helper()
	want := make(api.Model, n)
	for i := range want {
		want[i] = !strings.Contains(strings.ReplaceAll(s, "\n", " "), " -"+strconv.Itoa(i+1)+" ")
	}
	m, e := Model(s, n)
	if plainValues(want) == s {
		if e != api.OK || !slices.Equal(m, want) {
			t.Errorf("Model(%q, %d) = %v, %d, want %v", s, n, m, e, want)
		}
	} else if e != api.ErrWord || len(m) != 0 {
		t.Errorf("Model(%q, %d) = %v, %d", s, n, m, e)
	}
}

// P2.4: the model stays as it is, what lies behind its length too, and each answer is memory of its own.
func TestValuesMemory(t *testing.T) {
	whole := api.Model{true, false, true, true}
	if s := Values(whole[:2]); s != "v 1 -2 0\n" || !slices.Equal(whole, api.Model{true, false, true, true}) {
		t.Errorf("Values: %q; the model: %v", s, whole)
	}
	a, _ := Model("v 1 -2 3 0\n", 3)
	b, _ := Model("v 1 -2 3 0\n", 3)
	a[0], a[1], a[2] = false, true, false
	if !slices.Equal(b, api.Model{true, false, true}) {
		t.Errorf("another answer was changed: %v", b)
	}
}
