package tests

import (
	"math"
	"math/rand"
	"regexp"
	"slices"
	"strconv"
	"strings"
	"testing"
	"unsafe"

	"loop.example/g00613/impl"
)

const lastPlace = 30

// rowOfFour: four cells of a row in 14 bytes.
const rowOfFour = "10bo10bo2bo2bo"

// longText: the text of some cells, of 391 bytes and those of its last row.
func longText(last string) string {
	return strings.Repeat(rowOfFour+"$", 26) + last + "!"
}

// knownTexts: texts of cells, by the words of the document, each with its cells.
func knownTexts() map[string]cells {
	square := slices.Concat(row(0, 0, 31), row(0, 1, 31), row(0, 2, 31), row(0, 3, 27))
	return map[string]cells{
		"!":                     nil,
		"o!":                    {at(0, 0)},
		"bo!":                   {at(1, 0)},
		"2bo!":                  {at(2, 0)},
		"2o!":                   row(0, 0, 2),
		"31o!":                  row(0, 0, 31),
		"30bo!":                 {at(30, 0)},
		"29b2o!":                row(29, 0, 2),
		"b30o!":                 row(1, 0, 30),
		"$o!":                   {at(0, 1)},
		"2$o!":                  {at(0, 2)},
		"30$o!":                 {at(0, 30)},
		"30$30bo!":              {at(30, 30)},
		"30$31o!":               row(0, 30, 31),
		"o29bo30$o29bo!":        {at(0, 0), at(30, 0), at(0, 30), at(30, 30)},
		"2o2$bo!":               {at(0, 0), at(1, 0), at(1, 2)},
		"2o$2o!":                block,
		"bo$2bo$3o!":            glider,
		"3$2b3o$o!":             {at(2, 3), at(3, 3), at(4, 3), at(0, 4)},
		"o10$o11$o9$o!":         {at(0, 0), at(0, 10), at(0, 21), at(0, 30)},
		"31o$31o$31o$27o!":      square,
		"31o$31o$31o$26o4$4bo!": append(slices.Clone(square[:119]), at(4, 7)),
		"9o10b9o!":              append(row(0, 0, 9), row(19, 0, 9)...),
		"o$bo$2bo$3bo!":         {at(0, 0), at(1, 1), at(2, 2), at(3, 3)},
		"obobobobobobobobobobobobobobobo!": func() cells {
			var l cells
			for i := range 16 {
				l = append(l, at(2*i, 0))
			}
			return l
		}(),
	}
}

// faultyTexts: texts that are no text of cells, each with its code.
func faultyTexts() map[string]int {
	return map[string]int{
		"":                                1,
		"o":                               1,
		"bo":                              1,
		"2":                               1,
		"o$":                              1,
		"31":                              1,
		"O!":                              1,
		"B!":                              1,
		"-2o!":                            1,
		"+2o!":                            1,
		" o!":                             1,
		"o !":                             1,
		"o\n!":                            1,
		"2 o!":                            1,
		"2.o!":                            1,
		"o#!":                             1,
		"\x00":                            1,
		"\xff!":                           1,
		"\xc3\xb6!":                       1,
		"o\xcc\xb2!":                      1,
		"\u0662o!":                        1,
		"\uff0f!":                         1,
		"/o!":                             1,
		":o!":                             1,
		"2!":                              1,
		"o2!":                             1,
		"o31!":                            1,
		"!!":                              2,
		"!o":                              2,
		"! ":                              2,
		"o!\n":                            2,
		"o!o!":                            2,
		"o!\xff":                          2,
		"o!0":                             2,
		"0o!":                             3,
		"1o!":                             3,
		"32o!":                            3,
		"99o!":                            3,
		"100o!":                           3,
		"02o!":                            3,
		"00o!":                            3,
		"002o!":                           3,
		"0b2o!":                           3,
		"1bo!":                            3,
		"32bo!":                           3,
		"1$o!":                            3,
		"0$o!":                            3,
		"32$o!":                           3,
		"18446744073709551618o!":          3,
		"9223372036854775808o!":           3,
		strings.Repeat("9", 398) + "o!":   3,
		strings.Repeat("0", 397) + "2o!":  3,
		"31bo!":                           4,
		"30b2o!":                          4,
		"b31o!":                           4,
		"31oo!":                           4,
		"31o31o!":                         4,
		"31$o!":                           4,
		"30$$o!":                          4,
		"31b31bo!":                        4,
		strings.Repeat("31$", 132) + "o!": 4,
		strings.Repeat("31b", 132) + "o!": 4,
		"31o$31o$31o$28o!":                4,
		"31o$31o$31o$27o$o!":              4,
		strings.Repeat("4o$", 30) + "o!":  4,
		"oo!":                             5,
		"o2o!":                            5,
		"2oo!":                            5,
		"bbo!":                            5,
		"b2bo!":                           5,
		"$$o!":                            5,
		"2$$o!":                           5,
		"b!":                              5,
		"ob!":                             5,
		"o31b!":                           5,
		"31b31b!":                         5,
		"$!":                              5,
		"o$!":                             5,
		"31$!":                            5,
		"o31$31$!":                        5,
		"b$o!":                            5,
		"ob$o!":                           5,
		"o$b$o!":                          5,
		"o$2b!":                           5,
	}
}

// twoFaults: texts with two faults at least, of which the first from the front counts, 5 in the end.
func twoFaults() map[string]int {
	return map[string]int{
		"x0o!":                  1,
		"0ox!":                  3,
		"x!!":                   1,
		"!!x":                   2,
		"x31bo!":                1,
		"31bo!x":                4,
		"31box":                 4,
		"31bo":                  4,
		"31bo0o!":               4,
		"0o31bo!":               3,
		"31b0o!":                3,
		"31b0o":                 3,
		"o!0o":                  2,
		"o!31bo!":               2,
		"2!!":                   1,
		"2!x":                   1,
		"2!0":                   1,
		"o2":                    1,
		"0x":                    3,
		"32x":                   3,
		"2x":                    1,
		"0":                     3,
		"1":                     3,
		"o32":                   3,
		"o05":                   3,
		"0!":                    3,
		"1!":                    3,
		"o32!":                  3,
		"o01!x":                 3,
		"oo!x":                  2,
		"oox":                   1,
		"oo":                    1,
		"oo0o!":                 3,
		"oo2!":                  1,
		"oo31o!":                4,
		"b!!":                   2,
		"bb31o!":                4,
		"$$31$o!":               4,
		"b$":                    1,
		"31$o0":                 4,
		"31o$31o$31o$28ox":      4,
		"31o$31o$31o$28o!o":     4,
		"31o$31o$31o$0o28o!":    3,
		"31o$31o$31o$27o!0o28o": 2,
	}
}

// plainRuns: the text of cells by the words of the document, from a whole square of signs, trimmed and counted by patterns.
func plainRuns(l cells) string {
	var all strings.Builder
	for y := range lastPlace + 1 {
		for x := range lastPlace + 1 {
			if slices.Contains(l, at(x, y)) {
				all.WriteByte('o')
			} else {
				all.WriteByte('b')
			}
		}
		all.WriteByte('$')
	}
	s := regexp.MustCompile(`b*\$`).ReplaceAllString(all.String(), "$")
	s = strings.TrimRight(s, "$")
	return regexp.MustCompile(`o+|b+|\$+`).ReplaceAllStringFunc(s, func(run string) string {
		if len(run) == 1 {
			return run
		}
		return strconv.Itoa(len(run)) + run[:1]
	}) + "!"
}

// plainOfRuns: the cells and the code of a text, piece by piece.
func plainOfRuns(s string) (cells, int) {
	if len(s) > impl.MaxText {
		return nil, 0
	}
	var l cells
	x, y := 0, 0
	for rest := s; ; {
		digits := rest[:len(rest)-len(strings.TrimLeft(rest, "0123456789"))]
		rest = rest[len(digits):]
		long := 1
		if digits != "" {
			n, err := strconv.ParseUint(digits, 10, 64)
			if err != nil || n < 2 || n > 31 || digits[0] == '0' {
				return nil, 3
			}
			long = int(n)
		}
		if rest == "" || !strings.Contains("ob$!", rest[:1]) {
			return nil, 1
		}
		sign := rest[0]
		rest = rest[1:]
		if sign == '!' && digits != "" {
			return nil, 1
		}
		if sign == '!' && rest != "" {
			return nil, 2
		}
		if sign == '!' && plainRuns(l) != s {
			return nil, 5
		}
		if sign == '!' {
			return l, 0
		}
		for range long {
			if sign == 'o' && (x > lastPlace || y > lastPlace || len(l) == impl.MaxCells) {
				return nil, 4
			}
			if sign == 'o' {
				l = append(l, at(x, y))
			}
			x++
		}
		if sign == '$' {
			x, y = 0, y+long
		}
	}
}

// textLists: good cells with X and Y in 0..30, thin and thick, in corners and all over.
func textLists() []cells {
	r := rand.New(rand.NewSource(4))
	lists := []cells{nil, {}, block, glider}
	for range 600 {
		side := 1 + r.Intn(lastPlace+1)
		x, y := r.Intn(lastPlace+2-side), r.Intn(lastPlace+2-side)
		lists = append(lists, someCells(r, x, y, side, 1+r.Intn(impl.MaxCells)))
	}
	for range 100 {
		l := someCells(r, 0, 0, lastPlace+1, 60)
		lists = append(lists, sortCells(append(l, row(r.Intn(8), r.Intn(31), 1+r.Intn(24))...)))
	}
	for _, l := range knownTexts() {
		lists = append(lists, l)
	}
	return lists
}

// wantText: fails unless all three readers tell of the text these cells, or that code and nothing.
func wantText(t *testing.T, s string, want cells, code int, wantOk bool) {
	t.Helper()
	l, c, ok := impl.OfRuns(s)
	if !slices.Equal(l, want) || c != code || ok != wantOk {
		t.Errorf("OfRuns %q: got %v %d %v, want %v %d %v", s, l, c, ok, want, code, wantOk)
	}
	if n, ok := impl.CountIn(s); n != len(want) || ok != wantOk {
		t.Errorf("CountIn %q: got %d %v, want %d %v", s, n, ok, len(want), wantOk)
	}
	var pieces []string
	if wantOk {
		pieces = regexp.MustCompile(`[0-9]*[ob$!]`).FindAllString(s, -1)
	}
	if k, ok := impl.RunTokens(s); !slices.Equal(k, pieces) || ok != wantOk {
		t.Errorf("RunTokens %q: got %q %v, want %q %v", s, k, ok, pieces, wantOk)
	}
}

func wantRuns(t *testing.T, l cells, want string, wantOk bool) {
	t.Helper()
	if s, ok := impl.RunsOf(l); s != want || ok != wantOk {
		t.Errorf("RunsOf %v: got %q %v, want %q %v", l, s, ok, want, wantOk)
	}
}

func TestKnownTexts(t *testing.T) {
	for s, l := range knownTexts() {
		wantRuns(t, l, s, true)
		wantText(t, s, l, 0, true)
	}
}

func TestFaultyTexts(t *testing.T) {
	for s, code := range faultyTexts() {
		wantText(t, s, nil, code, false)
	}
}

func TestTheFirstFaultCounts(t *testing.T) {
	for s, code := range twoFaults() {
		wantText(t, s, nil, code, false)
	}
}

func TestCellsComeBackFromTheirText(t *testing.T) {
	told := map[bool]int{}
	for _, l := range textLists() {
		s := plainRuns(l)
		wantRuns(t, l, s, true)
		if len(s) <= impl.MaxText {
			wantText(t, s, l, 0, true)
		} else {
			wantText(t, s, nil, 0, false)
		}
		told[len(s) <= impl.MaxText]++
	}
	if told[true] < 300 {
		t.Errorf("the lists try too little: %v", told)
	}
}

// Every short text: told as the plain reading tells it, and no cells by two texts.
func TestEveryShortText(t *testing.T) {
	forms := map[string]string{}
	codes := map[int]int{}
	var try func(s string, more int)
	try = func(s string, more int) {
		l, code := plainOfRuns(s)
		wantText(t, s, l, code, code == 0)
		codes[code]++
		if code == 0 {
			key := plainRuns(l)
			if old, ok := forms[key]; ok {
				t.Errorf("%q and %q are the same cells", old, s)
			}
			forms[key] = s
			wantRuns(t, l, s, true)
		}
		if more > 0 && !t.Failed() {
			for _, sign := range "ob$!013" {
				try(s+string(sign), more-1)
			}
		}
	}
	try("", 5)
	for code := range 6 {
		if codes[code] == 0 {
			t.Errorf("no text with code %d was tried", code)
		}
	}
}

// Texts of cells with a byte or a piece changed here and there.
func TestSpoiltTexts(t *testing.T) {
	const signs = "oooobbbb$$$!!0123456789x\xff"
	r := rand.New(rand.NewSource(5))
	codes := map[int]int{}
	for i, l := range textLists() {
		whole := plainRuns(l)
		for range 12 {
			s := []byte(whole)
			for range 1 + r.Intn(3) {
				at := r.Intn(len(s) + 1)
				piece := []byte{signs[r.Intn(len(signs))]}
				cut := min(len(s), at+r.Intn(3))
				s = slices.Concat(s[:at], piece[:r.Intn(2)], s[cut:])
			}
			want, code := plainOfRuns(string(s))
			ok := code == 0 && len(s) <= impl.MaxText
			wantText(t, string(s), want, code, ok)
			codes[code]++
		}
		if t.Failed() {
			t.Fatalf("list %d", i)
		}
	}
	for code := range 6 {
		if codes[code] < 10 {
			t.Errorf("code %d was tried too little: %v", code, codes)
		}
	}
}

func TestTextsOfMaxText(t *testing.T) {
	just, more := longText("10bo2bobo"), longText("10bo10bobo")
	if len(just) != impl.MaxText || len(more) != impl.MaxText+1 {
		t.Fatal(len(just), len(more))
	}
	l, code := plainOfRuns(just)
	if code != 0 || len(l) != 107 {
		t.Fatal(code, len(l))
	}
	wantText(t, just, l, 0, true)
	wantRuns(t, l, just, true)
	wantText(t, more, nil, 0, false)
	long := append(slices.Clone(l[:104]), at(10, 26), at(21, 26), at(23, 26))
	wantRuns(t, long, more, true)
}

// Beyond MaxText nothing is looked for, so no code is told, whatever stands there.
func TestTextsBeyondMaxText(t *testing.T) {
	for _, s := range []string{"o", "x", "!", "0", "31$o", "oo!"} {
		long := strings.Repeat(s, impl.MaxText+1)[:impl.MaxText+1]
		wantText(t, long, nil, 0, false)
		wantText(t, s+strings.Repeat("b", 100000)+"!", nil, 0, false)
	}
	for s, code := range map[string]int{"b": 1, "x": 1, "!": 2, "0": 3, "o": 4} {
		wantText(t, strings.Repeat(s, impl.MaxText), nil, code, false)
	}
	wantText(t, strings.Repeat("b", impl.MaxText-1)+"!", nil, 5, false)
}

// A text may be longer than MaxText: RunsOf tells it all the same, though it does not come back.
func TestALongTextIsTold(t *testing.T) {
	var l cells
	for y := range 30 {
		l = append(l, at(10, y), at(21, y), at(24, y), at(27, y))
	}
	s := strings.Repeat(rowOfFour+"$", 29) + rowOfFour + "!"
	wantRuns(t, l, s, true)
	wantText(t, s, nil, 0, false)
}

func TestRunsOfMaxCells(t *testing.T) {
	l := slices.Concat(row(0, 0, 31), row(0, 1, 31), row(0, 2, 31), row(4, 30, 27))
	if len(l) != impl.MaxCells {
		t.Fatal(len(l))
	}
	wantRuns(t, l, "31o$31o$31o28$4b27o!", true)
	wantText(t, "31o$31o$31o28$4b27o!", l, 0, true)
	wantText(t, "31o$31o$31o28$3b28o!", nil, 4, false)
	wantRuns(t, append(slices.Clone(l[:93]), row(3, 30, 28)...), "", false)
}

func TestRunsOfWrongCells(t *testing.T) {
	for _, l := range badLists() {
		wantRuns(t, l, "", false)
	}
	for _, c := range []impl.Cell{at(31, 0), at(0, 31), at(-1, 0), at(0, -1), at(far, far), at(-far, -far), at(-1, 30), at(30, -1)} {
		wantRuns(t, cells{c}, "", false)
		wantRuns(t, sortCells(cells{at(0, 0), c, at(30, 30)}), "", false)
	}
	for _, c := range []impl.Cell{at(0, 0), at(30, 0), at(0, 30), at(30, 30)} {
		wantRuns(t, cells{c}, plainRuns(cells{c}), true)
	}
}

// plainRows: rows of cells, sign by sign.
func plainRows(l cells, wide, high int) []string {
	var rows []string
	for y := range high {
		signs := strings.Repeat(".", wide)
		for x := range wide {
			if slices.Contains(l, at(x, y)) {
				signs = signs[:x] + "#" + signs[x+1:]
			}
		}
		rows = append(rows, signs)
	}
	return rows
}

func wantRows(t *testing.T, l cells, wide, high int, want []string, wantOk bool) {
	t.Helper()
	if rows, ok := impl.RowsOf(l, wide, high); !slices.Equal(rows, want) || ok != wantOk {
		t.Errorf("RowsOf %v %d %d: got %q %v, want %q %v", l, wide, high, rows, ok, want, wantOk)
	}
}

func TestRowsOf(t *testing.T) {
	wantRows(t, glider, 3, 3, []string{".#.", "..#", "###"}, true)
	wantRows(t, glider, 4, 2, []string{".#..", "..#."}, true)
	wantRows(t, glider, 2, 4, []string{".#", "..", "##", ".."}, true)
	wantRows(t, nil, 2, 1, []string{".."}, true)
	wantRows(t, block, 0, 0, nil, true)
	wantRows(t, block, 20, 0, nil, true)
	wantRows(t, block, 0, 3, []string{"", "", ""}, true)
	wantRows(t, nil, 0, 20, make([]string, 20), true)
	for _, l := range append(mixedLists(), textLists()...) {
		wantRows(t, l, 20, 20, plainRows(l, 20, 20), true)
		wantRows(t, l, len(l)%21, len(l)*7%21, plainRows(l, len(l)%21, len(l)*7%21), true)
	}
}

// Cells with no place in the rows are left out of them, at every side.
func TestRowsOfCellsOutside(t *testing.T) {
	l := sortCells(cells{at(-1, 0), at(0, -1), at(20, 0), at(0, 20), at(19, 19), at(20, 19), at(19, 20), at(far, far), at(-far, -far)})
	rows, ok := impl.RowsOf(l, 20, 20)
	back, is := impl.OfRows(rows)
	wantCells(t, "the last place alone", back, ok && is, cells{at(19, 19)}, true)
	wantRows(t, l, 1, 1, []string{"."}, true)
}

func TestRowsOfWrongArguments(t *testing.T) {
	for _, n := range []int{-1, 21, 1 << 32, math.MinInt, math.MaxInt} {
		for _, l := range []cells{nil, block} {
			wantRows(t, l, n, 3, nil, false)
			wantRows(t, l, 3, n, nil, false)
			wantRows(t, l, n, 0, nil, false)
			wantRows(t, l, 0, n, nil, false)
			wantRows(t, l, n, n, nil, false)
		}
	}
	for _, l := range badLists() {
		wantRows(t, l, 3, 3, nil, false)
		wantRows(t, l, 0, 0, nil, false)
	}
}

func TestOfRows(t *testing.T) {
	full := strings.Repeat("#", 20)
	none := strings.Repeat(".", 20)
	six := []string{full, full, full, full, full, full}
	var all cells
	for y := range 6 {
		all = append(all, row(0, y, 20)...)
	}
	for name, c := range map[string]struct {
		rows []string
		want cells
	}{
		"nil":              {nil, nil},
		"no rows":          {[]string{}, nil},
		"a row of nothing": {[]string{""}, nil},
		"20 of nothing":    {make([]string, 20), nil},
		"a dead cell":      {[]string{"."}, nil},
		"a living cell":    {[]string{"#"}, cells{at(0, 0)}},
		"glider":           {[]string{".#.", "..#", "###"}, glider},
		"flat":             {[]string{".#.##"}, cells{at(1, 0), at(3, 0), at(4, 0)}},
		"high":             {[]string{".", "#", ".", "#"}, cells{at(0, 1), at(0, 3)}},
		"MaxCells":         {six, all},
		"MaxCells in 20":   {slices.Concat(six, slices.Repeat([]string{none}, 14)), all},
		"20 of 20, corner": {append(slices.Repeat([]string{none}, 19), none[1:]+"#"), cells{at(19, 19)}},
	} {
		got, ok := impl.OfRows(c.rows)
		wantCells(t, name, got, ok, c.want, true)
	}
}

func TestOfRowsOfWrongRows(t *testing.T) {
	full := strings.Repeat("#", 20)
	for name, rows := range map[string][]string{
		"another sign":            {"#x#"},
		"an empty place":          {"# #"},
		"o":                       {"o"},
		"a byte 0":                {"\x00"},
		"a line's end":            {"#\n"},
		"no plain byte":           {"\xff"},
		"a rune of three bytes":   {"\u2026", "..."},
		"a rune that ends as #":   {"\u0123"},
		"another sign further on": {"...", "..o"},
		"the second shorter":      {"..", "."},
		"the second longer":       {".", ".."},
		"the first of nothing":    {"", "."},
		"the last of nothing":     {"#", "#", ""},
		"21 signs":                {full + "."},
		"21 dead ones":            {strings.Repeat(".", 21), strings.Repeat(".", 21)},
		"21 rows":                 slices.Repeat([]string{"#"}, 21),
		"21 rows of nothing":      make([]string, 21),
		"121 cells":               {full, full, full, full, full, full, "#" + full[1:19] + "."},
		"one cell too many":       {full, full, full, full, full, full, strings.Repeat(".", 19) + "#"},
		"400 cells":               slices.Repeat([]string{full}, 20),
		"a long row":              {strings.Repeat(".", 100000)},
	} {
		got, ok := impl.OfRows(rows)
		wantCells(t, name, got, ok, nil, false)
	}
}

func TestCellsComeBackFromTheirRows(t *testing.T) {
	for _, l := range textLists() {
		l = slices.DeleteFunc(slices.Clone(l), func(c impl.Cell) bool { return c.X >= 20 || c.Y >= 20 })
		rows, ok := impl.RowsOf(l, 20, 20)
		back, is := impl.OfRows(rows)
		wantCells(t, "rows", back, ok && is, l, true)
	}
}

// sharesMemory: whether a byte of one text lies in the memory of the other.
func sharesMemory(a, b string) bool {
	if a == "" || b == "" {
		return false
	}
	fromA, fromB := uintptr(unsafe.Pointer(unsafe.StringData(a))), uintptr(unsafe.Pointer(unsafe.StringData(b)))
	return fromA < fromB+uintptr(len(b)) && fromB < fromA+uintptr(len(a))
}

func TestTextsWriteIntoNoCells(t *testing.T) {
	lists := textLists()[:60]
	for _, l := range badLists() {
		lists = append(lists, l)
	}
	for i, l := range lists {
		given, whole := guarded(l)
		before := slices.Clone(whole)
		first, ok := impl.RunsOf(given)
		again, told := impl.RunsOf(slices.Clone(l))
		if first != again || ok != told {
			t.Errorf("list %d: what lies behind is read: %q %q", i, first, again)
		}
		rows, ok := impl.RowsOf(given, 20, 20)
		if other, told := impl.RowsOf(slices.Clone(l), 20, 20); !slices.Equal(rows, other) || ok != told {
			t.Errorf("list %d: what lies behind is read: %q %q", i, rows, other)
		}
		if !slices.Equal(whole, before) {
			t.Fatalf("list %d: the argument's memory is written", i)
		}
	}
}

// Good cells behind the length are as if they were not there.
func TestNoCellBehindTheLengthIsTold(t *testing.T) {
	whole := row(0, 0, 6)
	for long := range 6 {
		wantRuns(t, whole[:long], plainRuns(whole[:long]), true)
		wantRows(t, whole[:long], 6, 1, plainRows(whole[:long], 6, 1), true)
	}
}

func TestRowsWritesIntoNoRows(t *testing.T) {
	whole := []string{".#", "##", "x", "#", "#########"}
	for long := range 6 {
		before := slices.Clone(whole)
		l, ok := impl.OfRows(whole[:long:long])
		other, told := impl.OfRows(whole[:long])
		wantCells(t, "rows behind the length", other, told, l, ok)
		spoil(l)
		again, _ := impl.OfRows(whole[:long])
		wantCells(t, "an answer's memory is another one's", again, ok, other, told)
		if !slices.Equal(whole, before) {
			t.Fatal("the argument's memory is written", whole)
		}
	}
}

func TestTokensAreNewMemory(t *testing.T) {
	for _, known := range []string{"!", "o!", "2o2$bo!", longText("10bo2bobo")} {
		s := strings.Clone(known)
		tokens, ok := impl.RunTokens(s)
		if !ok || s != known {
			t.Fatal(s, tokens, ok)
		}
		for _, token := range tokens {
			if sharesMemory(token, s) {
				t.Errorf("%q shares memory with %q", token, s)
			}
		}
		again, _ := impl.RunTokens(s)
		want := slices.Clone(again)
		clear(tokens[:cap(tokens)])
		if !slices.Equal(again, want) {
			t.Error("an answer's memory is another one's")
		}
	}
}

func TestReadCellsAreNewMemory(t *testing.T) {
	for s := range knownTexts() {
		l, _, ok := impl.OfRuns(s)
		again, _, _ := impl.OfRuns(s)
		want := slices.Clone(again)
		spoil(l)
		wantCells(t, s, again, ok, want, ok)
	}
	rows, _ := impl.RowsOf(glider, 3, 3)
	again, ok := impl.RowsOf(glider, 3, 3)
	clear(rows[:cap(rows)])
	if !ok || !slices.Equal(again, plainRows(glider, 3, 3)) {
		t.Error("an answer's memory is another one's")
	}
}
