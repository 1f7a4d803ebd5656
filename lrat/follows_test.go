package lrat

import (
	"math/rand"
	"slices"
	"strings"
	"testing"

	"threshing/api"
)

// P4.4: there and back.
func TestThereAndBack(t *testing.T) {
	r := rand.New(rand.NewSource(45))
	for range 20000 {
		l := stepsOf(r, 6)
		s, e := Write(l)
		if e != api.OK {
			t.Fatalf("Write(%v): %d", l, e)
		}
		answers(t, s, l...)
		back, _, _ := Parse(s)
		writes(t, back, s)
	}
}

// P4.4: what Parse takes, Write tells as the same text; what it refuses, no steps are told as.
func TestBackAndThere(t *testing.T) {
	r := rand.New(rand.NewSource(46))
	taken := 0
	for range 50000 {
		s := spoilt(r, plainText(stepsOf(r, 3)))
		if l, e, _ := Parse(s); e == api.OK {
			writes(t, l, s)
			taken++
		}
	}
	if taken == 0 || taken == 50000 {
		t.Errorf("%d texts of 50000 were taken", taken)
	}
}

// P4.4: two texts one behind the other.
func TestBothProofs(t *testing.T) {
	r := rand.New(rand.NewSource(47))
	for range 5000 {
		a, b := stepsOf(r, 4), stepsOf(r, 4)
		answers(t, plainText(a)+plainText(b), append(slices.Clone(a), b...)...)
		refuses(t, plainText(a)+"x\n"+plainText(b), api.ErrStep, len(a)+1)
	}
}

// P4.4: a text cut short is a shorter proof behind a line's end, and else wrong at the line that was cut.
func TestCutShort(t *testing.T) {
	r := rand.New(rand.NewSource(48))
	for range 300 {
		l := stepsOf(r, 4)
		s := plainText(l)
		for n := range len(s) + 1 {
			whole := strings.Count(s[:n], "\n")
			if n == 0 || s[n-1] == '\n' {
				answers(t, s[:n], l[:whole]...)
			} else {
				refuses(t, s[:n], api.ErrStep, whole+1)
			}
		}
	}
}

// A line that is cut and ended is wrong, too, or another step's.
func TestCutLines(t *testing.T) {
	s := "12 10 -20 0 30 -40 50 0\n"
	for n := range len(s) - 1 {
		checkPlain(t, s[:n]+"\n")
		checkPlain(t, s[n:])
	}
}
