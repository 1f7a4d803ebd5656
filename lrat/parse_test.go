package lrat

import (
	"math/big"
	"math/rand"
	"regexp"
	"slices"
	"strings"
	"testing"

	"threshing/api"
)

// answers asks that Parse of s is l, and OK without a line.
func answers(t *testing.T, s string, l ...api.Step) {
	t.Helper()
	m, e, at := Parse(s)
	if e != api.OK || at != 0 || !slices.EqualFunc(l, m, sameStep) {
		t.Errorf("Parse(%.200q) = %v, %d, %d, want %v", s, m, e, at, l)
	}
}

// refuses asks that Parse of s is this error with this line, and no steps.
func refuses(t *testing.T, s string, e api.Errno, at int) {
	t.Helper()
	l, e1, at1 := Parse(s)
	if e1 != e || at1 != at || len(l) != 0 {
		t.Errorf("Parse(%.200q) = %d steps, %d, %d, want %d, %d", s, len(l), e1, at1, e, at)
	}
}

// refusesLine asks that a line that is no step's is refused alone, ahead of others, behind them, and between them.
func refusesLine(t *testing.T, line string) {
	t.Helper()
	refuses(t, line+"\n", api.ErrStep, 1)
	refuses(t, line+"\n1 0 0\n", api.ErrStep, 1)
	refuses(t, "9 1 -2 0 3 4 0\n9 d 3 0\n"+line+"\n", api.ErrStep, 3)
	refuses(t, "9 1 -2 0 3 4 0\n"+line+"\n9 d 3 0\n0 0 0\n", api.ErrStep, 2)
}

func TestParseExamples(t *testing.T) {
	answers(t, "9 1 -2 0 3 4 0\n", added(9, api.Clause{1, -2}, 3, 4))
	answers(t, "10 0 9 -4 7 0\n", added(10, nil, 9, -4, 7))
	answers(t, "10 d 3 9 0\n0 d 0\n", gone(10, 3, 9), gone(0))
	refuses(t, "9 1 0 3 0", api.ErrStep, 1)
	for _, line := range []string{"9 1 0 3", "09 1 0 0", "9 01 0 0", "9  1 0 0", "9 1 0 0 0"} {
		refusesLine(t, line)
	}
	refuses(t, "9 d 3 0\n0 0 0\n", api.ErrStep, 2)
}

func TestParse(t *testing.T) {
	answers(t, "")
	answers(t, "1 0 0\n", added(1, nil))
	answers(t, "1 1 0 0\n", added(1, api.Clause{1}))
	answers(t, "1 0 1 0\n", added(1, nil, 1))
	answers(t, "1 d 0\n", gone(1))
	answers(t, "0 d 5 0\n", gone(0, 5))
	answers(t, "5 3 3 -3 0 5 5 -5 0\n", added(5, api.Clause{3, 3, -3}, 5, 5, -5))
	answers(t, "20 10 0 0\n3 0 20 0\n20 d 100 100 0\n", added(20, api.Clause{10}), added(3, nil, 20), gone(20, 100, 100))
}

func TestParseBounds(t *testing.T) {
	answers(t, "4611686018427387903 1048576 -1048576 1 -1 0 4611686018427387903 -4611686018427387903 1 -1 0\n",
		added(api.MaxID, api.Clause{api.MaxVar, -api.MaxVar, 1, -1}, api.MaxID, -api.MaxID, 1, -1))
	answers(t, "4611686018427387903 d 4611686018427387903 1 0\n", gone(api.MaxID, api.MaxID, 1))
	for _, line := range []string{
		"0 0 0", "0 1 0 1 0", "-1 0 0", "-1 d 0", "4611686018427387904 0 0", "4611686018427387904 d 0",
		"1 1048577 0 0", "1 -1048577 0 0", "1 1 -1048577 0 0", "1 4294967297 0 0", "1 2147483648 0 0", "1 -2147483648 0 0",
		"1 0 4611686018427387904 0", "1 0 -4611686018427387904 0", "1 0 1 4611686018427387904 0",
		"1 d 4611686018427387904 0", "1 d 1 4611686018427387904 0", "1 d -1 0", "1 d 1 -1 0", "1 d -4611686018427387903 0",
		// Numbers that would wrap round to ones that may be.
		"18446744073709551617 0 0", "1 18446744073709551617 0 0", "1 0 18446744073709551617 0", "1 d 18446744073709551617 0",
		"9223372036854775808 d 0", "18446744073709551616 d 0", "1 0 9223372036854775807 0", "1 0 -9223372036854775808 0", "1 0 1 18446744073709551616",
		"1 1 0 46116860184273879030 0", "1 1" + strings.Repeat("0", 1000) + " 0 0",
	} {
		refusesLine(t, line)
	}
}

func TestParseWords(t *testing.T) {
	for _, line := range []string{
		// Too few words.
		"", "9", "0", "9 0", "9 1", "9 1 2", "9 1 0", "9 1 0 2", "9 d", "9 d 1", "9 d 1 2", "d", "d 0",
		// Too many.
		"9 0 0 0", "9 0 0 1", "9 1 0 2 0 0", "9 1 0 2 0 3 0", "9 d 0 0", "9 d 1 0 2 0", "9 d 1 0 2", "9 d d 0", "9 d 0 d", "9 0 0 d",
		// The letter at another place, or another one.
		"9 0 d 0", "9 1 d 0", "9 1 d 0 0", "9 1 0 d", "9 1 0 d 0", "9 d 1 d 0", "d 9 0", "9 D 1 0", "9 e 1 0", "9 dd 1 0", "9 d1 0", "9 -d 1 0", "9d 1 0", "9 ad 1 0", "9 a 1 0", "9 a",
		// Blanks.
		" 9 0 0", "9 0 0 ", "9 0  0", "9  0 0", "9 0 0  ", "9 1  2 0 0", "9 1 0  2 0", "9  d 1 0", "9 d  1 0", "9 d 1  0", "9 d 1 0 ", " 9 d 1 0", "9 d ", "9 ", " ", "  ", "9 0 ", "9 1 0 2 ",
		"9\t0 0", "9 0\t0", "9 0 0\t", "9 0 0\r", "9 d 1 0\r", "\r", "9\r0 0", "9 0\v0", "9\x000 0", "9 0 0\x00", "9\u00a00 0", "9 d\t1 0", "9\td 1 0", "90 0", "900", "9d10",
		// Noughts ahead, signs, and what is no digit.
		"09 0 0", "00 d 0", "9 00 0", "9 0 00", "9 01 0 0", "9 -01 0 0", "9 0 01 0", "9 0 -01 0", "9 d 01 0", "9 d 00", "09 d 1 0", "9 0 1 00", "000 d 0",
		"+9 0 0", "9 +1 0 0", "9 0 +1 0", "9 d +1 0", "9 -0 0", "9 0 -0", "9 d -0", "-0 d 0", "-9 0 0", "-9 d 1 0", "9 - 0 0", "9 0 - 0", "- 0 0", "9 --1 0 0", "9 0 --1 0", "9 1- 0 0", "9 1-1 0 0", "9 0 1-1 0", "9 - 1 0 0",
		"9 1.0 0 0", "9 1_0 0 0", "9 0x1 0 0", "9 1e1 0 0", "0x9 0 0", "9 a 0 0", "9 1a 0 0", "9 0 a 0", "9 0 1a 0", "9 d 1a 0", "9a 0 0", "9 0 0a", "9 0 a0", "9 / 0 0", "9 : 0 0", "9 1: 0 0", "9 1/ 0 0", "9 0 1: 0", "9 \u0661 0 0", "9 \xff 0 0", "\xff", "9 ² 0 0",
		// What other forms of texts have.
		"c 9 0 0", "c", "p cnf 1 1", "9 0 0 c", "9 0 0;", "9, 0 0", "d 1 0", "a 9 0 0", "9 0 0%",
	} {
		refusesLine(t, line)
	}
}

// What stands behind the last byte 10 is a line, and wrong.
func TestParseEnd(t *testing.T) {
	const good = "9 1 0 3 0\n9 d 1 0\n"
	answers(t, good, added(9, api.Clause{1}, 3), gone(9, 1))
	for _, behind := range []string{"9 1 0 3 0", "9 d 1 0", "0 d 0", " ", "9", "0", "x", "\r", "\x00"} {
		refuses(t, behind, api.ErrStep, 1)
		refuses(t, good+behind, api.ErrStep, 3)
	}
	refuses(t, "\n", api.ErrStep, 1)
	refuses(t, "\n"+good, api.ErrStep, 1)
	refuses(t, good+"\n", api.ErrStep, 3)
	refuses(t, "\n\n", api.ErrStep, 1)
	refuses(t, "9 1 0 3 0\n\n9 d 1 0\n", api.ErrStep, 2)
	refuses(t, "9 1 0 3\n0\n", api.ErrStep, 1)
	refuses(t, "9 1 0\n3 0\n", api.ErrStep, 1)
	refuses(t, "9 1 0 3 0\r\n", api.ErrStep, 1)
}

func TestParseLimits(t *testing.T) {
	most := strings.Repeat("0 d 0\n", api.MaxSteps)
	l, e, at := Parse(most)
	if e != api.OK || at != 0 || len(l) != api.MaxSteps || slices.ContainsFunc(l, func(s api.Step) bool { return !sameStep(s, gone(0)) }) {
		t.Errorf("as many steps as may be: %d, %d, %d", len(l), e, at)
	}
	refuses(t, most+"0 d 0\n", api.ErrLimit, api.MaxSteps+1)
	refuses(t, most+"1 0 0\n", api.ErrLimit, api.MaxSteps+1)
	refuses(t, most+"0 d 0\nx\n", api.ErrLimit, api.MaxSteps+1)
	refuses(t, most+"0 d 0", api.ErrStep, api.MaxSteps+1)
	refuses(t, most+"\n", api.ErrStep, api.MaxSteps+1)
	refuses(t, most+"0 0 0\n", api.ErrStep, api.MaxSteps+1)
	refuses(t, "x\n"+most+"0 d 0\n", api.ErrStep, 1)
}

func TestParseItemLimits(t *testing.T) {
	const half = api.MaxLits / 2
	most := "1 " + strings.Repeat("1 ", half) + "0 " + strings.Repeat("1 ", half-2) + "0\n2 d 1 0\n3 1 0 0\n"
	l, e, at := Parse(most)
	want := []api.Step{added(1, ones[api.Lit](half), ones[int64](half-2)...), gone(2, 1), added(3, api.Clause{1})}
	if e != api.OK || at != 0 || !slices.EqualFunc(l, want, sameStep) {
		t.Errorf("as many literals and hints as may be: %d, %d, %d", len(l), e, at)
	}
	refuses(t, most+"0 d 0\n4 1 0 0\n", api.ErrLimit, 5)
	refuses(t, most+"4 0 1 0\n", api.ErrLimit, 4)
	refuses(t, most+"4 d 1 0\n", api.ErrLimit, 4)
	refuses(t, most+"4 d 1 0\nx", api.ErrLimit, 4)
	refuses(t, most+"4 d 1 0", api.ErrStep, 4)
	if l, e, _ := Parse(most + "4 0 0\n4 d 0\n"); e != api.OK || len(l) != 5 {
		t.Errorf("steps without literals and hints behind as many as may be: %d, %d", len(l), e)
	}
}

// One line has as many as may be.
func TestParseLongestLine(t *testing.T) {
	row := strings.Repeat("1 ", api.MaxLits)
	for text, want := range map[string]api.Step{
		"1 " + row + "0 0\n": added(1, ones[api.Lit](api.MaxLits)),
		"1 d " + row + "0\n": gone(1, ones[int64](api.MaxLits)...),
	} {
		if l, e, at := Parse(text); e != api.OK || at != 0 || len(l) != 1 || !sameStep(l[0], want) {
			t.Errorf("as many in one line as may be: %d steps, %d, %d", len(l), e, at)
		}
	}
}

// A line that alone is past the limit is asked to be a step's line, first.
func TestParseLongLines(t *testing.T) {
	row := strings.Repeat("1 ", api.MaxLits+1)
	refuses(t, "1 "+row+"0 0\n", api.ErrLimit, 1)
	refuses(t, "1 0 "+row+"0\n", api.ErrLimit, 1)
	refuses(t, "1 0 0\n1 d "+row+"0\n", api.ErrLimit, 2)
	refuses(t, "1 "+row+"1048577 0 0\n", api.ErrStep, 1)
	refuses(t, "1 "+row+"0 0", api.ErrStep, 1)
	refuses(t, "1 d "+row+"-1 0\n", api.ErrStep, 1)
}

var (
	addedForm = regexp.MustCompile(`^([1-9][0-9]*) ((?:-?[1-9][0-9]* )*)0 ((?:-?[1-9][0-9]* )*)0\n$`)
	goneForm  = regexp.MustCompile(`^(0|[1-9][0-9]*) d ((?:[1-9][0-9]* )*)0\n$`)
)

// plainNumbers tells the numbers of a row of words, and whether all of them are from -most to most.
func plainNumbers(words string, most int64) ([]int64, bool) {
	var l []int64
	for _, w := range strings.Fields(words) {
		n, _ := new(big.Int).SetString(w, 10)
		if new(big.Int).Abs(n).Cmp(big.NewInt(most)) > 0 {
			return nil, false
		}
		l = append(l, n.Int64())
	}
	return l, true
}

// plainStep tells the step of a line as the chapter says it.
func plainStep(line string) (api.Step, bool) {
	if m := goneForm.FindStringSubmatch(line); m != nil {
		id, a := plainNumbers(m[1], api.MaxID)
		hints, b := plainNumbers(m[2], api.MaxID)
		if a && b {
			return gone(id[0], hints...), true
		}
	}
	if m := addedForm.FindStringSubmatch(line); m != nil {
		id, a := plainNumbers(m[1], api.MaxID)
		lits, b := plainNumbers(m[2], api.MaxVar)
		hints, c := plainNumbers(m[3], api.MaxID)
		if a && b && c {
			s := added(id[0], nil, hints...)
			for _, n := range lits {
				s.Lits = append(s.Lits, api.Lit(n))
			}
			return s, true
		}
	}
	return api.Step{}, false
}

// plainParse is Parse as the chapter says it, without limits.
func plainParse(s string) ([]api.Step, int) {
	var l []api.Step
	for i, line := range strings.SplitAfter(s, "\n") {
		if line == "" {
			break
		}
		step, ok := plainStep(line)
		if !ok {
			return nil, i + 1
		}
		l = append(l, step)
	}
	return l, 0
}

// checkPlain holds Parse against its plain definition.
func checkPlain(t *testing.T, s string) {
	t.Helper()
	l, at := plainParse(s)
	if at > 0 {
		refuses(t, s, api.ErrStep, at)
		return
	}
	answers(t, s, l...)
}

// All texts of a few bytes.
func TestParseAllShort(t *testing.T) {
	texts := []string{""}
	for range 6 {
		var next []string
		for _, s := range texts {
			for _, c := range "019- d\n" {
				next = append(next, s+string(c))
			}
		}
		for _, s := range next {
			checkPlain(t, s)
			checkPlain(t, "1 "+s+"0\n")
		}
		texts = next
	}
}

// All lines of a few words that are nearly right.
func TestParseAllWords(t *testing.T) {
	words := []string{"0", "1", "-1", "d", "01", "", "1048576", "-1048577", "4611686018427387903", "-4611686018427387904"}
	lines := []string{""}
	for range 5 {
		var next []string
		for _, s := range lines {
			for _, w := range words {
				next = append(next, s+w+" ")
			}
		}
		for _, s := range next {
			checkPlain(t, s[:len(s)-1]+"\n")
			checkPlain(t, s+"0\n")
		}
		lines = next
	}
}

// spoilt changes some bytes of a text, takes some out, and puts some in.
func spoilt(r *rand.Rand, s string) string {
	b := []byte(s)
	for range r.Intn(3) {
		at := r.Intn(len(b) + 1)
		c := "0123456789- d\n\r\t+x"[r.Intn(18)]
		switch {
		case at == len(b) || r.Intn(3) == 0:
			b = slices.Insert(b, at, c)
		case r.Intn(2) == 0:
			b = slices.Delete(b, at, at+1)
		default:
			b[at] = c
		}
	}
	return string(b)
}

func TestParseDrawn(t *testing.T) {
	r := rand.New(rand.NewSource(43))
	for range 100000 {
		checkPlain(t, spoilt(r, plainText(stepsOf(r, 4))))
	}
}

func FuzzParse(f *testing.F) {
	f.Add("9 1 -2 0 3 4 0\n9 d 3 4 0\n12 0 9 -4 7 0\n")
	f.Fuzz(func(t *testing.T, s string) { checkPlain(t, s) })
}

// P4.3 of Parse: no list of an answer shares memory with another one, of it or of another answer.
func TestParseNewMemory(t *testing.T) {
	r := rand.New(rand.NewSource(44))
	for range 1000 {
		want := stepsOf(r, 6)
		s := plainText(want)
		first, _, _ := Parse(s)
		second, _, _ := Parse(s)
		for i := range first {
			first[i].ID, first[i].Kind = -5, 9
			for j := range first[i].Lits {
				first[i].Lits[j] = 0
			}
			for j := range first[i].Hints {
				first[i].Hints[j] = 0
			}
			_ = append(first[i].Lits, 0, 0, 0, 0, 0, 0, 0, 0)
			_ = append(first[i].Hints, 0, 0, 0, 0, 0, 0, 0, 0)
			if !slices.EqualFunc(first[i+1:], want[i+1:], sameStep) {
				t.Fatalf("step %d of %q shares memory with one behind it", i, s)
			}
		}
		if !slices.EqualFunc(second, want, sameStep) {
			t.Fatalf("two answers to %q share memory", s)
		}
	}
}

// The rows of a step share none either, whatever is put behind one of them.
func TestParseRowsApart(t *testing.T) {
	l, _, _ := Parse("3 1 2 0 1 2 0\n4 5 0 3 0\n4 d 1 2 3 0\n")
	for i := range l {
		lits := l[i].Lits[:cap(l[i].Lits)]
		for j := range lits {
			lits[j] = 7
		}
		hints := l[i].Hints[:cap(l[i].Hints)]
		if i == 1 && hints[0] != 3 {
			t.Errorf("literals and hints share memory: %v", l)
		}
		for j := range hints {
			hints[j] = 7
		}
	}
	want := []api.Step{added(3, api.Clause{7, 7}, 7, 7), added(4, api.Clause{7}, 7), gone(4, 7, 7, 7)}
	if !slices.EqualFunc(l, want, sameStep) {
		t.Errorf("the lists became %v", l)
	}
}
