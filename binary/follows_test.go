package binary

import (
	"math/rand"
	"slices"
	"testing"

	"threshing/api"
	"threshing/lrat"
)

// P5.4: there and back.
func TestThereAndBack(t *testing.T) {
	r := rand.New(rand.NewSource(56))
	for range 20000 {
		l := stepsOf(r, 6)
		b, e := Write(l)
		if e != api.OK {
			t.Fatalf("Write(%v): %d", l, e)
		}
		answers(t, b, l...)
		back, _, _ := Parse(b)
		writes(t, back, b...)
	}
}

// P5.4: what Parse takes, Write tells as the same bytes.
func TestBackAndThere(t *testing.T) {
	r := rand.New(rand.NewSource(57))
	taken := 0
	for range 50000 {
		b := spoilt(r, plainBytes(stepsOf(r, 3)))
		if l, e, _ := Parse(b); e == api.OK {
			writes(t, l, b...)
			taken++
		}
	}
	if taken == 0 || taken == 50000 {
		t.Errorf("%d of 50000 were taken", taken)
	}
}

// P5.4: two proofs' bytes one behind the other.
func TestBothProofs(t *testing.T) {
	r := rand.New(rand.NewSource(58))
	for range 5000 {
		l, m := stepsOf(r, 4), stepsOf(r, 4)
		a, b := plainBytes(l), plainBytes(m)
		answers(t, slices.Concat(a, b), slices.Concat(l, m)...)
		refuses(t, slices.Concat(a, []byte{98}, b), api.ErrByte, len(a))
	}
}

// Bytes cut short are a shorter proof behind a step's last byte, and else wrong at the step that was cut.
func TestCutShort(t *testing.T) {
	r := rand.New(rand.NewSource(59))
	for range 300 {
		l := stepsOf(r, 4)
		whole := plainBytes(l)
		done := 0
		for i, s := range l {
			end := done + len(plainStepBytes(s))
			answers(t, whole[:done], l[:i]...)
			for n := done + 1; n < end; n++ {
				refuses(t, whole[:n], api.ErrByte, done)
			}
			done = end
		}
	}
}

// checkBoth asks that steps have a text and bytes, which tell the same, or neither.
func checkBoth(t *testing.T, l []api.Step) {
	t.Helper()
	b, e := Write(l)
	s, f := lrat.Write(l)
	if (e == api.OK) != (f == api.OK) || (e == api.ErrLimit) != (f == api.ErrLimit) {
		t.Errorf("as bytes: %d, as a text: %d", e, f)
	}
	if e != api.OK || f != api.OK {
		return
	}
	m, _, _ := Parse(b)
	n, _, _ := lrat.Parse(s)
	if !slices.EqualFunc(m, n, sameStep) {
		t.Errorf("as bytes: %v, as a text: %v", m, n)
	}
}

// P5.4: a text and bytes, or neither.
func TestTextAndBytes(t *testing.T) {
	r := rand.New(rand.NewSource(60))
	wrong := wrongSteps()
	for range 5000 {
		l := stepsOf(r, 5)
		checkBoth(t, l)
		for _, s := range wrong {
			l = slices.Insert(l, r.Intn(len(l)+1), s)
			break
		}
		checkBoth(t, l)
	}
	for _, s := range wrong {
		checkBoth(t, []api.Step{s})
	}
	checkBoth(t, nil)
	many := make([]api.Step, api.MaxSteps+1)
	for i := range many {
		many[i] = gone(0)
	}
	checkBoth(t, many)
	checkBoth(t, []api.Step{gone(1, ones[int64](api.MaxLits+1)...)})
	checkBoth(t, []api.Step{gone(1, ones[int64](api.MaxLits)...)})
}

// Steps of each number near a bound of a byte's bits, of an id's, and of a literal's.
func TestTextAndBytesBounds(t *testing.T) {
	for shift := range 64 {
		for near := int64(-2); near <= 2; near++ {
			n := int64(1)<<shift + near
			for _, n := range []int64{n, -n} {
				for _, kind := range []uint8{api.SAdd, api.SDel} {
					checkBoth(t, []api.Step{{Kind: kind, ID: n}})
					checkBoth(t, []api.Step{{Kind: kind, ID: 1, Lits: api.Clause{api.Lit(n)}}})
					checkBoth(t, []api.Step{{Kind: kind, ID: 1, Hints: []int64{n}}})
				}
			}
		}
	}
}
