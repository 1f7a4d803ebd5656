package dimacs

import (
	"math/big"
	"math/rand"
	"regexp"
	"slices"
	"strconv"
	"strings"
	"testing"

	"threshing/api"
)

// sameFormula asks for the same clauses with the same literals in the same order.
func sameFormula(f, g api.Formula) bool {
	return f.Vars == g.Vars && slices.EqualFunc(f.Clauses, g.Clauses, func(a, b api.Clause) bool { return slices.Equal(a, b) })
}

// answers asks that Parse of s is f, and OK without a line.
func answers(t *testing.T, s string, f api.Formula) {
	t.Helper()
	g, e, at := Parse([]byte(s))
	if e != api.OK || at != 0 || !sameFormula(f, g) {
		t.Errorf("Parse(%.60q) = %v, %d, %d, want %v", s, g, e, at, f)
	}
}

// refuses asks that Parse of s is this error with this line, and no formula.
func refuses(t *testing.T, s string, e api.Errno, at int) {
	t.Helper()
	f, e1, at1 := Parse([]byte(s))
	if e1 != e || at1 != at || f.Vars != 0 || len(f.Clauses) != 0 {
		t.Errorf("Parse(%.60q) = %d variables, %d clauses, %d, %d, want %d, %d", s, f.Vars, len(f.Clauses), e1, at1, e, at)
	}
}

// formula is the one of these clauses.
func formula(vars int, clauses ...api.Clause) api.Formula {
	return api.Formula{Vars: vars, Clauses: clauses}
}

func TestParseExamples(t *testing.T) {
	answers(t, "c x\np cnf 2 2\n1 -2 0 2\n0", formula(2, api.Clause{1, -2}, api.Clause{2}))
	refuses(t, "p cnf 2 1\n1", api.ErrEnd, 3)
	refuses(t, "p cnf 2 1\n3 0", api.ErrRange, 2)
	refuses(t, "p cnf 2 1\n1 0 2 0", api.ErrMore, 2)
	refuses(t, "p cnf 2 1\n01 0", api.ErrWord, 2)
	refuses(t, "p dnf 2 1", api.ErrHead, 1)
	refuses(t, "", api.ErrHead, 1)
	refuses(t, "p cnf 1 1\n2 0", api.ErrRange, 2)
}

func TestParseNothing(t *testing.T) {
	for _, b := range [][]byte{nil, {}} {
		if f, e, at := Parse(b); f.Vars != 0 || len(f.Clauses) != 0 || e != api.ErrHead || at != 1 {
			t.Errorf("Parse(%v) = %v, %d, %d", b, f, e, at)
		}
	}
}

func TestParseLayouts(t *testing.T) {
	f := formula(3, api.Clause{1, -2}, nil, api.Clause{3, 3, -3})
	for _, s := range []string{
		"p cnf 3 3\n1 -2 0\n0\n3 3 -3 0\n",
		"p cnf 3 3\n1 -2 0\n0\n3 3 -3 0",
		"p cnf 3 3\n1 -2 0 0 3 3 -3 0",
		"p cnf 3 3\n1\n-2\n0\n0\n3\n3\n-3\n0\n",
		"p cnf 3 3\r\n1 -2 0\r\n0\r\n3 3 -3 0\r\n",
		"\tp\r\r cnf  3\t3 \t\n\r1\t-2 0\t \n  0\n3 3\n-3 0 \r\t",
		"c\n\ncnf\n \t\r\n\np cnf 3 3\n\n1\nc 7 0 x\n-2 \n \nc\n0 0 3\n\n\nc3\n3 -3\n\t\n0\n\nc\n\n",
		"c p cnf 1 1\np cnf 3 3\n1 -2 0 0 3 3 -3 0\nc",
		"cp cnf 1 1\np cnf 3 3\n1 -2 0 0 3 3 -3 0\nc\xff\x00 -0 01",
	} {
		answers(t, s, f)
	}
	answers(t, "p cnf 0 0", formula(0))
	answers(t, "p cnf 0 0\n", formula(0))
	answers(t, "p cnf 0 0\n\nc 0\n \n", formula(0))
	answers(t, "p cnf 7 0", formula(7))
	answers(t, "p cnf 0 2\n0 0", formula(0, nil, nil))
	answers(t, "p cnf 1 1\n1 1 -1 0", formula(1, api.Clause{1, 1, -1}))
}

func TestParseHeadErrors(t *testing.T) {
	for _, s := range []string{
		"p", "p cnf", "p cnf 1", "p cnf 1 1 1", "p cnf 1 1 0", "p cnf 1 1 c", "p cnf 1 1 1 1 1",
		"q cnf 1 1", "P cnf 1 1", "pp cnf 1 1", "p CNF 1 1", "p cn 1 1", "p cnff 1 1", "pcnf 1 1", "p cnf1 1",
		"p cnf 01 1", "p cnf 1 01", "p cnf 00 1", "p cnf -1 1", "p cnf 1 -1", "p cnf -0 0", "p cnf 0 -0", "p cnf +1 1", "p cnf 1 +1",
		"p cnf x 1", "p cnf 1 x", "p cnf 1x 1", "p cnf 1 1x", "p cnf 1. 1", "p cnf 0x1 1", "p cnf 1_0 1", "p cnf / 1", "p cnf 1 :",
		"p\x0bcnf 1 1", "p\x0ccnf 1 1", "p\u00a0cnf 1 1", "p cnf 1 1\x00", "\x00p cnf 1 1", "\ufeffp cnf 1 1", "p cnf \xff 1", "p cnf ١ 1",
		"1 0", "x", " c", "\tc", "\rc", " c x", "-", "%",
	} {
		refuses(t, s, api.ErrHead, 1)
		refuses(t, s+"\n1 0\n", api.ErrHead, 1)
		refuses(t, "\n"+s+"\n", api.ErrHead, 2)
		refuses(t, "c\n\n \r\t\ncnf\n"+s, api.ErrHead, 5)
	}
	refuses(t, "p cnf\n1 1\n", api.ErrHead, 1)
	refuses(t, "p\ncnf 1 1\n", api.ErrHead, 1)
	for s, at := range map[string]int{"\n": 2, " ": 2, " \n": 2, "\r\n": 2, "c": 2, "c\n": 2, "c\nc\n": 3, "c\n\n": 3, "\n\n ": 4, "cp cnf 1 1": 2, "\n\n\n": 4} {
		refuses(t, s, api.ErrHead, at)
	}
}

func TestParseHeadRange(t *testing.T) {
	answers(t, "p cnf 1048576 0", formula(api.MaxVar))
	answers(t, "p cnf 1048576 1\n1048576 -1048576 0", formula(api.MaxVar, api.Clause{api.MaxVar, -api.MaxVar}))
	for _, n := range []string{"1048577", "1048580", "10485760", "2147483647", "2147483648", "4294967297", "9223372036854775807", "9223372036854775808", "18446744073709551616", "18446744073709551617", "1" + strings.Repeat("0", 400)} {
		refuses(t, "p cnf "+n+" 1", api.ErrRange, 1)
		refuses(t, "p cnf 1 "+n, api.ErrRange, 1)
		refuses(t, "p cnf "+n+" "+n+"\nx", api.ErrRange, 1)
		refuses(t, "c\n\np cnf "+n+" 1\nx", api.ErrRange, 3)
		refuses(t, "p cnf "+n+" x", api.ErrHead, 1)
		refuses(t, "p cnf "+n+" 01", api.ErrHead, 1)
		refuses(t, "p cnf "+n+" 1 1", api.ErrHead, 1)
		refuses(t, "p cnf 1048576 1\n1\n"+n+" 0", api.ErrRange, 3)
		refuses(t, "p cnf 1048576 1\n1\n-"+n+" 0", api.ErrRange, 3)
	}
	refuses(t, "p cnf 1 1048576", api.ErrEnd, 2)
}

func TestParseWordErrors(t *testing.T) {
	for _, w := range []string{"x", "01", "-01", "00", "-0", "-00", "-", "--1", "+1", "1-", "1-1", "1x", "x1", "-x", "1.0", "0x1", "1_0", "p", "%", "\x00", "1\x00", "\x0b", "1\x0c1", "\u00a0", "\xff", "١", "/", ":", "1/", "1:", "-/"} {
		refuses(t, "p cnf 9 2\n"+w, api.ErrWord, 2)
		refuses(t, "p cnf 9 2\n1 "+w+" 0", api.ErrWord, 2)
		refuses(t, "p cnf 9 2\n1\n0 "+w+" 0 x", api.ErrWord, 3)
		refuses(t, "\np cnf 9 2\n\nc\n \n1 "+w+"\n99\n", api.ErrWord, 6)
		// A word that is no number is so behind the last clause too.
		refuses(t, "p cnf 9 1\n1 0\n"+w+"\n", api.ErrWord, 3)
		refuses(t, "p cnf 9 0\n"+w, api.ErrWord, 2)
	}
	// A remark begins with its line, not with a word.
	refuses(t, "p cnf 1 1\n1 c\n0", api.ErrWord, 2)
	refuses(t, "p cnf 1 1\n1\n c\n0", api.ErrWord, 3)
	refuses(t, "p cnf 1 1\np cnf 1 1\n", api.ErrWord, 2)
}

func TestParseMore(t *testing.T) {
	for _, w := range []string{"0", "1", "-1", "2", "-2", "99999999999999999999"} {
		refuses(t, "p cnf 1 0\n"+w, api.ErrMore, 2)
		refuses(t, "p cnf 1 1\n1 0 "+w+" 0", api.ErrMore, 2)
		refuses(t, "p cnf 1 1\n1\n0\n\nc\n"+w+" x", api.ErrMore, 6)
	}
	refuses(t, "p cnf 1 1\n1 0\n0\n", api.ErrMore, 3)
}

func TestParseRange(t *testing.T) {
	for _, w := range []string{"4", "-4", "10", "-10", "256", "4294967297", "-4294967297", "18446744073709551617", "-18446744073709551617"} {
		refuses(t, "p cnf 3 1\n"+w, api.ErrRange, 2)
		refuses(t, "p cnf 3 1\n3 -3\n"+w+" x 0", api.ErrRange, 3)
	}
	refuses(t, "p cnf 0 1\n1 0", api.ErrRange, 2)
	refuses(t, "p cnf 0 1\n-1 0", api.ErrRange, 2)
	answers(t, "p cnf 3 1\n3 -3 0", formula(3, api.Clause{3, -3}))
}

func TestParseEnd(t *testing.T) {
	for s, at := range map[string]int{
		"p cnf 1 1":             2,
		"p cnf 1 1\n":           2,
		"p cnf 1 1\n\n":         3,
		"p cnf 1 1\n ":          3,
		"p cnf 1 1\n1":          3,
		"p cnf 1 1\n1\n":        3,
		"p cnf 1 1\n1\n\n":      4,
		"p cnf 1 1\n1\nc 0":     4,
		"p cnf 1 1\n1\nc 0\n":   4,
		"p cnf 1 2\n1 0":        3,
		"p cnf 1 2\n1 0\n1":     4,
		"p cnf 1 2\n0\n":        3,
		"c\n\np cnf 1 2\n0\nc":  6,
		"p cnf 1 3\n1 0 -1 0\n": 3,
	} {
		refuses(t, s, api.ErrEnd, at)
	}
}

func TestParseFirstErrorCounts(t *testing.T) {
	refuses(t, "p cnf 2 1\n3\nx", api.ErrRange, 2)
	refuses(t, "p cnf 2 1\nx\n3", api.ErrWord, 2)
	refuses(t, "p cnf 2 1\n1 0\n3\nx", api.ErrMore, 3)
	refuses(t, "p cnf 2 1\n-0 0 0", api.ErrWord, 2)
	refuses(t, "p cnf 2 2\n1 0 x", api.ErrWord, 2)
}

func TestParseMostClauses(t *testing.T) {
	zeros := strings.Repeat("0\n", api.MaxClauses)
	f, e, at := Parse([]byte("p cnf 1 1048576\n" + zeros))
	if e != api.OK || at != 0 || f.Vars != 1 || len(f.Clauses) != api.MaxClauses {
		t.Errorf("%d clauses, %d, %d", len(f.Clauses), e, at)
	}
	refuses(t, "p cnf 1 1048576\n"+zeros+"0", api.ErrMore, api.MaxClauses+2)
	refuses(t, "p cnf 1 1048576\n"+zeros[2:], api.ErrEnd, api.MaxClauses+1)
}

func TestParseMostLiterals(t *testing.T) {
	// Half of them in one clause, the rest in another: it is all clauses' literals that are counted.
	half := strings.Repeat("1 ", api.MaxLits/2)
	s := "p cnf 1 3\n" + half + "0\n" + half + "0\n"
	f, e, at := Parse([]byte(s + "0"))
	if e != api.OK || at != 0 || len(f.Clauses) != 3 || len(f.Clauses[0]) != api.MaxLits/2 || len(f.Clauses[1]) != api.MaxLits/2 || len(f.Clauses[2]) != 0 {
		t.Errorf("%d clauses, %d, %d", len(f.Clauses), e, at)
	}
	refuses(t, s+"\n-1 0", api.ErrRange, 5)
	refuses(t, s+"0\n1", api.ErrMore, 5)
	refuses(t, s+"x", api.ErrWord, 4)
}

var (
	isNumber = regexp.MustCompile(`^(0|-?[1-9][0-9]*)$`).MatchString
	isHead   = regexp.MustCompile(`^[ \t\r]*p[ \t\r]+cnf[ \t\r]+(0|[1-9][0-9]*)[ \t\r]+(0|[1-9][0-9]*)[ \t\r]*$`)
	isBlank  = regexp.MustCompile(`^[ \t\r]*$`).MatchString
)

// plainParse is the chapter's definition, word by word, by other means.
func plainParse(s string) (api.Formula, api.Errno, int) {
	lines := strings.Split(s, "\n")
	if lines[len(lines)-1] == "" {
		lines = lines[:len(lines)-1]
	}
	behind := len(lines) + 1
	var f api.Formula
	var open api.Clause
	head, wanted := false, 0
	for i, line := range lines {
		if strings.HasPrefix(line, "c") || isBlank(line) {
			continue
		}
		if !head {
			m := isHead.FindStringSubmatch(line)
			if m == nil {
				return api.Formula{}, api.ErrHead, i + 1
			}
			vars, clauses := toBig(m[1]), toBig(m[2])
			if vars.Cmp(big.NewInt(api.MaxVar)) > 0 || clauses.Cmp(big.NewInt(api.MaxClauses)) > 0 {
				return api.Formula{}, api.ErrRange, i + 1
			}
			f.Vars, wanted, head = int(vars.Int64()), int(clauses.Int64()), true
			continue
		}
		for _, w := range strings.FieldsFunc(line, func(r rune) bool { return strings.ContainsRune(" \t\r", r) }) {
			switch {
			case !isNumber(w):
				return api.Formula{}, api.ErrWord, i + 1
			case len(f.Clauses) == wanted:
				return api.Formula{}, api.ErrMore, i + 1
			case w == "0":
				f.Clauses, open = append(f.Clauses, open), nil
			case new(big.Int).Abs(toBig(w)).Cmp(big.NewInt(int64(f.Vars))) > 0:
				return api.Formula{}, api.ErrRange, i + 1
			default:
				open = append(open, api.Lit(toBig(w).Int64()))
			}
		}
	}
	if !head {
		return api.Formula{}, api.ErrHead, behind
	}
	if len(open) > 0 || len(f.Clauses) < wanted {
		return api.Formula{}, api.ErrEnd, behind
	}
	return f, api.OK, 0
}

func toBig(s string) *big.Int {
	n, _ := new(big.Int).SetString(s, 10)
	return n
}

// asDefined holds Parse against the plain definition.
func asDefined(t *testing.T, s string) {
	t.Helper()
	f, e, at := plainParse(s)
	if e == api.OK {
		answers(t, s, f)
	} else {
		refuses(t, s, e, at)
	}
}

// eachRow calls do with each row of at most n of these pieces.
func eachRow(n int, pieces []string, do func(string)) {
	var add func(s string, left int)
	add = func(s string, left int) {
		do(s)
		if left == 0 {
			return
		}
		for _, p := range pieces {
			add(s+p, left-1)
		}
	}
	add("", n)
}

func TestParseAllSmallTexts(t *testing.T) {
	ahead := []string{"p cnf 1 1", "p", " ", "cnf", "1", "0", "\n", "c", "-"}
	eachRow(5, ahead, func(s string) { asDefined(t, s) })
	body := []string{"1", "-", "0", " ", "\n", "\t", "c", "2"}
	for _, head := range []string{"p cnf 1 1\n", "c\n p cnf 2 2 \n", "p cnf 0 0"} {
		eachRow(5, body, func(s string) { asDefined(t, head+s) })
	}
}

func TestParseRandomTexts(t *testing.T) {
	r := rand.New(rand.NewSource(2))
	pieces := []string{"1", "-1", "2", "-2", "3", "-3", "0", "0", " 0\n", " ", " ", "\t", "\r", "\n", "\n", "c", "\nc 1\n", "12", "x"}
	for range 20000 {
		s := "p cnf " + strconv.Itoa(r.Intn(4)) + " " + strconv.Itoa(r.Intn(4)) + "\n"
		for range r.Intn(24) {
			s += pieces[r.Intn(len(pieces))] + strings.Repeat(" ", r.Intn(2))
		}
		asDefined(t, s)
	}
}

// P2.5: what is put ahead of a line moves the numbers of lines, and nothing else.
func TestParseMoreAhead(t *testing.T) {
	texts := []string{
		"p cnf 2 2\n1 -2 0 2\n0", "p cnf 2 2\n1 -2 0\n2 0\n", "p cnf 2 1\n1", "p cnf 2 1\n3 0\n", "p cnf 2 1\n1 0\n2 0", "p cnf 2 1\n01 0", "p dnf 2 1\n", "p cnf 1 9999999",
	}
	for _, s := range texts {
		f, e, at := Parse([]byte(s))
		lines := strings.SplitAfter(s, "\n")
		for i := range lines {
			ahead, rest := strings.Join(lines[:i], ""), strings.Join(lines[i:], "")
			for _, more := range []string{"\n", " \t\r\n", "c\n", "c 9 0 x\n"} {
				want := at
				if e != api.OK && i < at {
					want++
				}
				g, e1, at1 := Parse([]byte(ahead + more + rest))
				if e1 != e || at1 != want || !sameFormula(f, g) {
					t.Errorf("%q ahead of line %d of %q: %v, %d, %d, want %v, %d, %d", more, i+1, s, g, e1, at1, f, e, want)
				}
			}
			if rest == "" {
				continue
			}
			for _, more := range []string{" ", "\t", "\r", " \r\t  "} {
				g, e1, at1 := Parse([]byte(ahead + more + rest))
				if e1 != e || at1 != at || !sameFormula(f, g) {
					t.Errorf("%q ahead of line %d of %q: %v, %d, %d, want %v, %d, %d", more, i+1, s, g, e1, at1, f, e, at)
				}
			}
		}
	}
}

// P2.4: the bytes stay as they are, those behind their length too, and clauses share no memory with anything.
func TestParseMemory(t *testing.T) {
	whole := []byte("c x\np cnf 3 4\n1 -2 0 3\n0 0 2 0\n 77 0 never read")
	text := "c x\np cnf 3 4\n1 -2 0 3\n0 0 2 0\n"
	before := string(whole)
	b := whole[:len(text)]
	f, e, at := Parse(b)
	want := formula(3, api.Clause{1, -2}, api.Clause{3}, nil, api.Clause{2})
	if e != api.OK || at != 0 || !sameFormula(f, want) || string(whole) != before {
		t.Fatalf("Parse: %v, %d, %d; the bytes: %q", f, e, at, whole)
	}
	g, _, _ := Parse(b)
	for i := range whole {
		whole[i] = 'x'
	}
	for i := range f.Clauses {
		f.Clauses[i] = append(f.Clauses[i], 3, 3, 3, 3, 3, 3, 3, 3)
		for k := range f.Clauses[i] {
			f.Clauses[i][k] = 3
		}
		for k := i + 1; k < len(f.Clauses); k++ {
			if !slices.Equal(f.Clauses[k], want.Clauses[k]) {
				t.Errorf("clause %d was changed with clause %d: %v", k, i, f.Clauses[k])
			}
		}
	}
	if !sameFormula(g, want) {
		t.Errorf("another answer was changed: %v", g)
	}
}
