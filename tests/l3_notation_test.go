package tests

import (
	"math/rand"
	"reflect"
	"regexp"
	"slices"
	"strconv"
	"strings"
	"testing"

	"loop.example/g00894/impl"
)

// plainTidy completes an abbreviated change by the words of the document.
func plainTidy(n int, s string) (string, bool) {
	if s == "x" {
		s = "-"
	}
	end := strconv.Itoa(n)
	for _, c := range []string{s, s + end, "1" + s, "1" + s + end} {
		if _, ok := plainChangeRow(n, c); ok {
			return c, true
		}
	}
	return "", false
}

func plainMirror(l []string) []string {
	mirrored := slices.Clone(l)
	for i := len(l) - 2; i >= 0; i-- {
		mirrored = append(mirrored, l[i])
	}
	return mirrored
}

func plainText(l []string) string {
	text := strings.Join(l, ".")
	return strings.ReplaceAll(strings.ReplaceAll(text, ".-", "-"), "-.", "-")
}

var notationPiece = regexp.MustCompile(`^[0-9]+|^[-x]`)

// plainBlock reads a block that begins at an offset; it returns the changes, or the offset of the first invalid one and false.
func plainBlock(n int, block string, offset int) ([]string, int, bool) {
	var changes []string
	for {
		piece := notationPiece.FindString(block)
		c, ok := plainTidy(n, piece)
		if piece == "" || !ok {
			return nil, offset, false
		}
		changes = append(changes, c)
		block, offset = block[len(piece):], offset+len(piece)
		if block == "" {
			return changes, 0, true
		}
		if block[0] == '.' {
			block, offset = block[1:], offset+1
		}
	}
}

// plainRead reads a place notation by the words of the document, block by block.
func plainRead(n int, s string) ([]string, int, int, bool) {
	if n < 3 || n > 8 {
		return nil, 0, 0, false
	}
	if s == "" || len(s) > 200 {
		return nil, 1, 0, false
	}
	blocks := strings.Split(s, ",")
	var list []string
	offset := 0
	for _, block := range blocks {
		changes, at, ok := plainBlock(n, block, offset)
		if !ok {
			return nil, 2, at, false
		}
		if len(blocks) > 1 {
			changes = plainMirror(changes)
		}
		list = append(list, changes...)
		offset += len(block) + 1
	}
	if len(blocks) > 4 || len(list) > 40 {
		return nil, 3, 0, false
	}
	return list, 0, 0, true
}

// plainHalves looks for the halves from their definition, with the shortest second half first.
func plainHalves(l []string) ([]string, []string, bool) {
	for size := 1; 2*size-1 < len(l); size++ {
		first := len(l) - (2*size - 1)
		a, b := l[:(first+1)/2], l[first:first+size]
		if slices.Equal(append(plainMirror(a), plainMirror(b)...), l) {
			return a, b, true
		}
	}
	return nil, nil, false
}

func plainShort(l []string) string {
	text := plainText(l)
	if a, b, ok := plainHalves(l); ok {
		if short := plainText(a) + "," + plainText(b); len(short) < len(text) {
			return short
		}
	}
	return text
}

// listsOf lists all lists of 1 to most changes of a stage.
func listsOf(n int, most int) [][]string {
	var lists [][]string
	var extend func(l []string)
	extend = func(l []string) {
		if len(l) == most {
			return
		}
		for _, c := range changesOf(n) {
			longer := append(slices.Clone(l), c)
			lists = append(lists, longer)
			extend(longer)
		}
	}
	extend(nil)
	return lists
}

// randomLists makes some lists of changes of a stage of each length from 1 to 40, the same ones in every run.
func randomLists(n int, each int) [][]string {
	source := rand.New(rand.NewSource(int64(n)))
	changes := changesOf(n)
	var lists [][]string
	for length := 1; length <= 40; length++ {
		for range each {
			l := make([]string, length)
			for i := range l {
				l[i] = changes[source.Intn(len(changes))]
			}
			lists = append(lists, l)
		}
	}
	return lists
}

// mirroredLists makes lists that have halves: all sizes of both halves that give at most 40 changes.
func mirroredLists(n int) [][]string {
	source := rand.New(rand.NewSource(int64(100 + n)))
	changes := changesOf(n)
	some := func(size int) []string {
		l := make([]string, size)
		for i := range l {
			l[i] = changes[source.Intn(len(changes))]
		}
		return l
	}
	var lists [][]string
	for first := 1; first <= 20; first++ {
		for second := 1; first+second <= 21; second++ {
			lists = append(lists, append(plainMirror(some(first)), plainMirror(some(second))...))
		}
	}
	return lists
}

func repeated(c string, times int) []string {
	l := make([]string, times)
	for i := range l {
		l[i] = c
	}
	return l
}

// badLists are lists that are no list of changes of the stage n.
func badLists(n int) [][]string {
	good := changesOf(n)[0]
	lists := [][]string{nil, {}, repeated(good, 41), repeated(good, 80), repeated("", 3)}
	for _, c := range badChanges(n) {
		lists = append(lists, []string{c}, []string{c, good}, []string{good, c, good}, append(repeated(good, 39), c))
	}
	return lists
}

func checkRead(t *testing.T, n int, s string) {
	t.Helper()
	list, code, at, ok := impl.ReadNotation(n, s)
	want, wantCode, wantAt, wantOK := plainRead(n, s)
	if ok != wantOK || code != wantCode || at != wantAt || !slices.Equal(list, want) {
		t.Fatalf("ReadNotation(%d, %q) is %q, %d, %d, %v and not %q, %d, %d, %v", n, s, list, code, at, ok, want, wantCode, wantAt, wantOK)
	}
	if count, ok := impl.CountChanges(n, s); ok != wantOK || count != len(want) {
		t.Fatalf("CountChanges(%d, %q) is %d, %v", n, s, count, ok)
	}
}

func checkFault(t *testing.T, n int, s string, wantCode, wantAt int) {
	t.Helper()
	if list, code, at, ok := impl.ReadNotation(n, s); ok || len(list) != 0 || code != wantCode || at != wantAt {
		t.Errorf("ReadNotation(%d, %q) is %q, %d, %d, %v and not code %d at %d", n, s, list, code, at, ok, wantCode, wantAt)
	}
	if count, ok := impl.CountChanges(n, s); ok || count != 0 {
		t.Errorf("CountChanges(%d, %q) is %d, %v", n, s, count, ok)
	}
}

func checkList(t *testing.T, n int, s string, want ...string) {
	t.Helper()
	if list, code, at, ok := impl.ReadNotation(n, s); !ok || code != 0 || at != 0 || !slices.Equal(list, want) {
		t.Errorf("ReadNotation(%d, %q) is %q, %d, %d, %v and not %q", n, s, list, code, at, ok, want)
	}
	if count, ok := impl.CountChanges(n, s); !ok || count != len(want) {
		t.Errorf("CountChanges(%d, %q) is %d, %v", n, s, count, ok)
	}
}

func TestTidyChangeKnown(t *testing.T) {
	known := []struct {
		n    int
		s, c string
	}{
		{6, "4", "14"}, {6, "14", "14"}, {6, "1", "16"}, {6, "2", "12"}, {6, "3", "36"}, {6, "5", "56"}, {6, "6", "16"},
		{6, "x", "-"}, {6, "-", "-"}, {6, "236", "1236"}, {6, "123", "1236"}, {6, "23", "1236"}, {6, "345", "3456"}, {6, "45", "1456"},
		{3, "1", "1"}, {3, "3", "3"},
		{4, "1", "14"}, {4, "2", "12"}, {4, "3", "34"}, {4, "4", "14"}, {4, "x", "-"},
		{5, "1", "1"}, {5, "2", "125"}, {5, "4", "145"}, {5, "5", "5"}, {5, "12", "125"}, {5, "34", "345"}, {5, "23", "123"}, {5, "45", "145"},
		{7, "2", "127"}, {7, "6", "167"}, {7, "347", "347"}, {7, "34", "347"},
		{8, "2345", "123458"}, {8, "8", "18"}, {8, "7", "78"}, {8, "36", "36"}, {8, "x", "-"},
	}
	for _, k := range known {
		if c, ok := impl.TidyChange(k.n, k.s); !ok || c != k.c {
			t.Errorf("TidyChange(%d, %q) is %q, %v and not %s", k.n, k.s, c, ok, k.c)
		}
	}
}

func TestTidyChangeOfEveryAbbreviation(t *testing.T) {
	for n := 3; n <= 8; n++ {
		for _, c := range changesOf(n) {
			// An abbreviation may be a change itself or mean another one, which the document's order decides.
			for _, s := range []string{c, strings.TrimPrefix(c, "1"), strings.TrimSuffix(c, strconv.Itoa(n)), strings.Trim(c, "1"+strconv.Itoa(n))} {
				want, wantOK := plainTidy(n, s)
				tidy, ok := impl.TidyChange(n, s)
				if !ok || !wantOK || tidy != want || s == c && tidy != c {
					t.Errorf("TidyChange(%d, %q) is %q, %v and not %q, %v", n, s, tidy, ok, want, wantOK)
				}
				if again, ok := impl.TidyChange(n, tidy); !ok || again != tidy {
					t.Errorf("TidyChange(%d, %q) is %q, %v", n, tidy, again, ok)
				}
			}
		}
	}
}

func TestTidyChangeOnEveryShortString(t *testing.T) {
	for n := 3; n <= 8; n++ {
		var visit func(s string)
		visit = func(s string) {
			want, wantOK := plainTidy(n, s)
			if c, ok := impl.TidyChange(n, s); c != want || ok != wantOK {
				t.Fatalf("TidyChange(%d, %q) is %q, %v and not %q, %v", n, s, c, ok, want, wantOK)
			}
			if len(s) < 4 {
				for _, letter := range "-x0123456789.," {
					visit(s + string(letter))
				}
			}
		}
		visit("")
	}
}

func TestTidyChangeOfNothingIsExternalPlaces(t *testing.T) {
	for n, want := range map[int]string{3: "3", 4: "14", 5: "5", 6: "16", 7: "7", 8: "18"} {
		if c, ok := impl.TidyChange(n, ""); !ok || c != want {
			t.Errorf("TidyChange(%d, \"\") is %q, %v", n, c, ok)
		}
	}
}

func TestTidyChangeFails(t *testing.T) {
	for n := 3; n <= 8; n++ {
		bad := []string{"X", "xx", "--", "x-", "1x", "x1", " ", " 1", "1 ", "1.4", "0", "9", "10", "21", "11", "24", "41", ",", ".", "\x00", "\xff", "\u2212", "\uff11", strings.Repeat("1", 1000), rounds8[:n], rounds8[1:n], rounds8[:n-1]}
		if n%2 == 1 {
			bad = append(bad, "x", "-")
		}
		for _, s := range bad {
			if c, ok := impl.TidyChange(n, s); ok || c != "" {
				t.Errorf("TidyChange(%d, %q) is %q, %v", n, s, c, ok)
			}
		}
	}
	for _, n := range badStages() {
		for _, s := range []string{"", "x", "-", "1", "2", "12", "14", "3"} {
			if c, ok := impl.TidyChange(n, s); ok || c != "" {
				t.Errorf("TidyChange(%d, %q) is %q, %v", n, s, c, ok)
			}
		}
	}
}

func TestNotationText(t *testing.T) {
	known := []struct {
		n    int
		want string
		l    []string
	}{
		{6, "-14-14-14-12", []string{"-", "14", "-", "14", "-", "14", "-", "12"}},
		{6, "14", []string{"14"}},
		{6, "-", []string{"-"}},
		{6, "--", []string{"-", "-"}},
		{6, "14.16", []string{"14", "16"}},
		{6, "14-16", []string{"14", "-", "16"}},
		{6, "--14.12.14--", []string{"-", "-", "14", "12", "14", "-", "-"}},
		{5, "5.1.5.1.125", []string{"5", "1", "5", "1", "125"}},
		{3, "3.1.3", []string{"3", "1", "3"}},
	}
	for _, k := range known {
		if text, ok := impl.NotationText(k.n, k.l); !ok || text != k.want {
			t.Errorf("NotationText(%d, %q) is %q, %v", k.n, k.l, text, ok)
		}
	}
	for n := 3; n <= 8; n++ {
		for _, l := range append(listsOf(n, 2), randomLists(n, 5)...) {
			if text, ok := impl.NotationText(n, l); !ok || text != plainText(l) {
				t.Fatalf("NotationText(%d, %q) is %q, %v", n, l, text, ok)
			}
		}
	}
}

func TestNotationTextMayBeLongerThanWhatIsRead(t *testing.T) {
	l := repeated("123456", 40)
	text, ok := impl.NotationText(8, l)
	if !ok || len(text) != 40*6+39 || text != strings.Join(l, ".") {
		t.Fatalf("NotationText of 40 long changes is %q, %v", text, ok)
	}
	checkFault(t, 8, text, 1, 0)
	l[39] = "78"
	if short, ok := impl.ShortNotation(8, l); !ok || short != strings.Join(l[:20], ".")+",78" {
		t.Errorf("ShortNotation(8, %q) is %q, %v", l, short, ok)
	}
	l[38] = "78"
	if short, ok := impl.ShortNotation(8, l); !ok || len(short) <= 200 {
		t.Errorf("ShortNotation(8, %q) is %q, %v", l, short, ok)
	}
}

func TestReadingInvertsFullAndShortNotation(t *testing.T) {
	longest := map[int]int{3: 8, 4: 5, 5: 3, 6: 3, 7: 2, 8: 2}
	for n := 3; n <= 8; n++ {
		lists := slices.Concat(listsOf(n, longest[n]), randomLists(n, 20), mirroredLists(n))
		for _, l := range lists {
			full, okFull := impl.NotationText(n, l)
			short, okShort := impl.ShortNotation(n, l)
			if !okFull || !okShort || len(short) > len(full) {
				t.Fatalf("notations of %q on %d are %q, %v and %q, %v", l, n, full, okFull, short, okShort)
			}
			for _, text := range []string{full, short} {
				if len(text) > impl.MaxNotation {
					checkFault(t, n, text, 1, 0)
				} else {
					checkList(t, n, text, l...)
				}
			}
		}
	}
}

func TestReadNotationKnown(t *testing.T) {
	checkList(t, 6, "x14x14,12", "-", "14", "-", "14", "-", "14", "-", "12")
	checkList(t, 6, "-14-14-14-12", "-", "14", "-", "14", "-", "14", "-", "12")
	checkList(t, 6, "-4-4,2", "-", "14", "-", "14", "-", "14", "-", "12")
	checkList(t, 6, "x.14", "-", "14")
	checkList(t, 6, "14.x", "14", "-")
	checkList(t, 6, "14.-.14", "14", "-", "14")
	checkList(t, 6, "-.x.-", "-", "-", "-")
	checkList(t, 6, "x-x", "-", "-", "-")
	checkList(t, 6, "14.4.1.6.2.5", "14", "14", "16", "16", "12", "56")
	checkList(t, 5, "5.1.5.1.5,2", "5", "1", "5", "1", "5", "1", "5", "1", "5", "125")
	checkList(t, 3, "3.1", "3", "1")
	checkList(t, 4, "x1x1,2", "-", "14", "-", "14", "-", "14", "-", "12")
	checkList(t, 8, "2", "12")
	checkList(t, 8, "x.36x4,x.2,5,x", "-", "36", "-", "14", "-", "36", "-", "-", "12", "-", "58", "-")
}

func TestReadNotationOfBlocks(t *testing.T) {
	checkList(t, 6, "14,12", "14", "12")
	checkList(t, 6, "14.16,12", "14", "16", "14", "12")
	checkList(t, 6, "12,14.16", "12", "14", "16", "14")
	checkList(t, 6, "x,x,x", "-", "-", "-")
	checkList(t, 6, "1,2.x,3,4", "16", "12", "-", "12", "36", "14")
	checkFault(t, 6, "1,2.x,3,4,5", 3, 0)
	checkFault(t, 6, "x,x,x,x,x", 3, 0)
	checkFault(t, 6, strings.Repeat("x,", 99)+"14", 3, 0)
	checkFault(t, 6, "x,x,x,x,x,", 2, 10)
	checkFault(t, 6, "x,x,x,x,a", 2, 8)
	checkFault(t, 6, "x,x,x,x,24", 2, 8)
}

func TestReadNotationFindsTheFirstInvalidChange(t *testing.T) {
	for _, fault := range []struct {
		s  string
		at int
	}{
		{"14..12", 3}, {"-..-", 2}, {"x..14", 2}, {"14...12", 3}, {"..", 0}, {".", 0},
		{".14", 0}, {".-", 0}, {".x14", 0}, {"14.", 3}, {"-.", 2}, {"x.x.", 4}, {"14.,12", 3}, {"x.,x", 2}, {"14,.12", 3}, {"x,.x", 2},
		{",", 0}, {",14", 0}, {"14,", 3}, {"14,,12", 3}, {"x,", 2}, {"x,x,", 4}, {",,,,,", 0}, {"x,,,,,", 2},
		{"24", 0}, {"14.24", 3}, {"14.24.24", 3}, {"-24", 1}, {"x24x", 1}, {"12,24", 3}, {"24,", 0}, {"24..", 0},
		{"1414", 0}, {"-1414", 1}, {"14-1212-", 3}, {"140", 0}, {"014", 0}, {"9", 0}, {"0", 0}, {"x7", 1}, {"78", 0}, {"19", 0}, {"-149.12", 1}, {"x14.190", 4}, {"123456", 0}, {"12.99999999999999999999", 3},
		{"X", 0}, {"14X", 2}, {"14 12", 2}, {" 14", 0}, {"14 ", 2}, {"14.a", 3}, {"a..", 0}, {"x;x", 1}, {"-/", 1}, {"-:", 1}, {"14/", 2}, {"14:", 2}, {"14+", 2}, {"14\n", 2},
		{"\x00", 0}, {"14\x00", 2}, {"x.\x00", 2}, {"x,\x00", 2}, {"\xff", 0}, {"x\xff", 1}, {"-\u2212", 1}, {"x\u00e9\u00e9", 1}, {"1\u0664", 1}, {"x\uff11", 1}, {"12.\u0661", 3},
	} {
		checkFault(t, 6, fault.s, 2, fault.at)
	}
	for _, n := range []int{3, 5, 7} {
		checkFault(t, n, "x", 2, 0)
		checkFault(t, n, "1.x", 2, 2)
		checkFault(t, n, "3-1", 2, 1)
		checkFault(t, n, "3,1.3,-", 2, 6)
	}
}

func TestReadNotationOnEveryShortString(t *testing.T) {
	for n := 3; n <= 8; n++ {
		letters := "-x.,14" + strconv.Itoa(n) + "a"
		var visit func(s string)
		visit = func(s string) {
			checkRead(t, n, s)
			if len(s) < 5 {
				for _, letter := range letters {
					visit(s + string(letter))
				}
			}
		}
		visit("")
	}
}

func TestReadNotationOnAlteredTexts(t *testing.T) {
	for n := 3; n <= 8; n++ {
		for i, l := range mirroredLists(n) {
			short, _ := impl.ShortNotation(n, l)
			for at := i % 3; at <= len(short) && i%5 == 0; at += 3 {
				for _, extra := range []string{".", ",", "-", "x", "1", "2", "3", "8", "0", "?", "\xff"} {
					checkRead(t, n, short[:at]+extra+short[at:])
					if at < len(short) {
						checkRead(t, n, short[:at]+extra+short[at+1:])
					}
				}
			}
		}
	}
}

func TestReadNotationOfMostBytes(t *testing.T) {
	l := repeated("1234", 40)
	l[39] = "123458"
	exact := strings.Join(l[:39], ".") + ".12345"
	if len(exact) != impl.MaxNotation {
		t.Fatalf("a text of %d bytes", len(exact))
	}
	checkList(t, 8, exact, l...)
	checkFault(t, 8, exact+"8", 1, 0)
	checkFault(t, 8, exact[:195]+"24.24", 2, 195)
	checkFault(t, 8, exact[:195]+"1234.", 2, 200)
	checkFault(t, 8, exact[:195]+"1234..", 1, 0)
	checkFault(t, 8, "?"+exact[1:], 2, 0)
	checkFault(t, 8, "?"+exact, 1, 0)
	checkFault(t, 8, strings.Repeat("-", 199)+"?", 2, 199)
	checkFault(t, 8, strings.Repeat("-", 200), 3, 0)
	checkFault(t, 8, strings.Repeat("-", 201), 1, 0)
	checkFault(t, 8, strings.Repeat(",", 200), 2, 0)
	checkFault(t, 8, strings.Repeat(",", 201), 1, 0)
	checkFault(t, 8, strings.Repeat("1", 200), 2, 0)
	checkFault(t, 8, strings.Repeat("x", 1<<20), 1, 0)
	for n := 3; n <= 8; n++ {
		checkFault(t, n, "", 1, 0)
	}
}

func TestReadNotationOfMostChanges(t *testing.T) {
	dashes := func(count int) string { return strings.Repeat("-", count) }
	checkList(t, 6, dashes(40), repeated("-", 40)...)
	checkFault(t, 6, dashes(41), 3, 0)
	checkFault(t, 6, dashes(41)+"?", 2, 41)
	checkList(t, 6, dashes(20)+",-", repeated("-", 40)...)
	checkFault(t, 6, dashes(20)+",--", 3, 0)
	checkFault(t, 6, dashes(21)+",-", 3, 0)
	checkFault(t, 6, "-,"+dashes(21), 3, 0)
	checkFault(t, 6, dashes(40)+",-", 3, 0)
	checkFault(t, 6, dashes(40)+",", 2, 41)
	checkList(t, 6, "-,"+dashes(20), repeated("-", 40)...)
	checkList(t, 6, dashes(20)+",-", repeated("-", 40)...)
	checkList(t, 6, dashes(10)+","+dashes(11), repeated("-", 40)...)
	checkFault(t, 6, dashes(11)+","+dashes(11), 3, 0)
	checkList(t, 6, dashes(18)+",-,-,--", repeated("-", 40)...)
	checkFault(t, 6, dashes(18)+",-,--,--", 3, 0)
	checkList(t, 6, dashes(7)+","+dashes(13)+",-", repeated("-", 39)...)
	checkFault(t, 6, dashes(7)+","+dashes(13)+",--", 3, 0)
	checkList(t, 5, strings.Repeat("1.", 39)+"1", repeated("1", 40)...)
	checkFault(t, 5, strings.Repeat("1.", 40)+"1", 3, 0)
}

func TestReadNotationOutOfStage(t *testing.T) {
	for _, n := range badStages() {
		for _, s := range []string{"", "-", "1", "14", "x14x14,12", "..", ",", "-,-,-,-,-", strings.Repeat("-", 41), strings.Repeat("-", 201)} {
			checkFault(t, n, s, 0, 0)
		}
	}
}

func TestMirrorAll(t *testing.T) {
	for _, l := range [][]string{nil, {}, {""}, {"1"}, {"1", "3", "5"}, {"a", "", "\xff", "12345"}, repeated("-", 20), {"same", "same"}} {
		if mirrored, ok := impl.MirrorAll(l); !ok || !slices.Equal(mirrored, plainMirror(l)) {
			t.Errorf("MirrorAll(%q) is %q, %v", l, mirrored, ok)
		}
	}
	var numbers []string
	for i := range 45 {
		l := slices.Clone(numbers)
		mirrored, ok := impl.MirrorAll(l)
		if fits := i <= 20; ok != fits || fits && !slices.Equal(mirrored, plainMirror(l)) || !fits && len(mirrored) != 0 {
			t.Errorf("MirrorAll of %d elements is %q, %v", i, mirrored, ok)
		}
		if ok && i > 0 && len(mirrored) != 2*i-1 {
			t.Errorf("MirrorAll of %d elements has %d", i, len(mirrored))
		}
		numbers = append(numbers, strconv.Itoa(i))
	}
}

func TestHalvesOfKnown(t *testing.T) {
	known := []struct{ l, a, b []string }{
		{[]string{"-", "14", "-", "14", "-", "14", "-", "12"}, []string{"-", "14", "-", "14"}, []string{"12"}},
		{[]string{"14", "12"}, []string{"14"}, []string{"12"}},
		{[]string{"14", "14"}, []string{"14"}, []string{"14"}},
		{[]string{"-", "-", "-", "-"}, []string{"-", "-"}, []string{"-"}},
		{[]string{"12", "14", "16", "14"}, []string{"12"}, []string{"14", "16"}},
		{[]string{"-", "12", "-", "14", "16", "14"}, []string{"-", "12"}, []string{"14", "16"}},
		{[]string{"-", "12", "-", "12"}, []string{"-", "12"}, []string{"12"}},
		{repeated("14", 40), repeated("14", 20), []string{"14"}},
		{append([]string{"12"}, repeated("-", 39)...), []string{"12"}, repeated("-", 20)},
	}
	for _, k := range known {
		if a, b, ok := impl.HalvesOf(6, k.l); !ok || !slices.Equal(a, k.a) || !slices.Equal(b, k.b) {
			t.Errorf("HalvesOf(6, %q) is %q, %q, %v", k.l, a, b, ok)
		}
	}
	for _, l := range [][]string{{"14"}, {"-"}, {"14", "12", "14"}, {"-", "14", "-", "14", "-"}, {"12", "14", "16", "34"}, {"-", "14", "12", "36"}} {
		if a, b, ok := impl.HalvesOf(6, l); ok || len(a)+len(b) != 0 {
			t.Errorf("HalvesOf(6, %q) is %q, %q, %v", l, a, b, ok)
		}
	}
}

func TestHalvesAndShortNotationOfEveryShortList(t *testing.T) {
	longest := map[int]int{3: 10, 4: 6, 5: 4, 6: 4, 7: 3, 8: 2}
	for n := 3; n <= 8; n++ {
		for _, l := range slices.Concat(listsOf(n, longest[n]), mirroredLists(n), randomLists(n, 3)) {
			a, b, ok := impl.HalvesOf(n, l)
			wantA, wantB, wantOK := plainHalves(l)
			if ok != wantOK || !slices.Equal(a, wantA) || !slices.Equal(b, wantB) {
				t.Fatalf("HalvesOf(%d, %q) is %q, %q, %v", n, l, a, b, ok)
			}
			if short, ok := impl.ShortNotation(n, l); !ok || short != plainShort(l) {
				t.Fatalf("ShortNotation(%d, %q) is %q, %v", n, l, short, ok)
			}
		}
	}
}

func TestHalvesRestoreTheList(t *testing.T) {
	for n := 3; n <= 8; n++ {
		for _, l := range mirroredLists(n) {
			a, b, ok := impl.HalvesOf(n, l)
			if !ok || len(a) == 0 || len(b) == 0 {
				t.Fatalf("HalvesOf(%d, %q) is %q, %q, %v", n, l, a, b, ok)
			}
			first, _ := impl.MirrorAll(a)
			second, _ := impl.MirrorAll(b)
			if !slices.Equal(slices.Concat(first, second), l) {
				t.Fatalf("HalvesOf(%d, %q) is %q, %q", n, l, a, b)
			}
		}
	}
}

func TestShortNotationKnown(t *testing.T) {
	known := []struct {
		want string
		l    []string
	}{
		{"-14-14,12", []string{"-", "14", "-", "14", "-", "14", "-", "12"}},
		{"14.12", []string{"14", "12"}},
		{"--", []string{"-", "-"}},
		{"-12", []string{"-", "12"}},
		{"----", repeated("-", 4)},
		{"---,-", repeated("-", 6)},
		{"----,-", repeated("-", 8)},
		{"-12-12", []string{"-", "12", "-", "12"}},
		{"14.12,16", []string{"14", "12", "14", "16"}},
		{"16,14.12", []string{"16", "14", "12", "14"}},
		{"14-14", []string{"14", "-", "14"}},
		{"14", []string{"14"}},
	}
	for _, k := range known {
		if short, ok := impl.ShortNotation(6, k.l); !ok || short != k.want {
			t.Errorf("ShortNotation(6, %q) is %q, %v and not %q", k.l, short, ok, k.want)
		}
	}
}

func checkListFailures(t *testing.T, n int, l []string) {
	t.Helper()
	if text, ok := impl.NotationText(n, l); ok || text != "" {
		t.Errorf("NotationText(%d, %q) is %q, %v", n, l, text, ok)
	}
	if text, ok := impl.ShortNotation(n, l); ok || text != "" {
		t.Errorf("ShortNotation(%d, %q) is %q, %v", n, l, text, ok)
	}
	if a, b, ok := impl.HalvesOf(n, l); ok || len(a)+len(b) != 0 {
		t.Errorf("HalvesOf(%d, %q) is %q, %q, %v", n, l, a, b, ok)
	}
}

func TestInvalidListsGiveZeroValues(t *testing.T) {
	for n := 3; n <= 8; n++ {
		for _, l := range badLists(n) {
			checkListFailures(t, n, l)
		}
	}
	for _, n := range badStages() {
		for _, l := range [][]string{nil, {"-"}, {"1"}, {"14", "12"}, {"-", "12"}, {"3", "1", "3", "3"}} {
			checkListFailures(t, n, l)
		}
	}
	// These are changes, but of another stage, or abbreviated.
	checkListFailures(t, 6, []string{"-", "18"})
	checkListFailures(t, 5, []string{"1", "-"})
	checkListFailures(t, 6, []string{"x", "14"})
	checkListFailures(t, 6, []string{"-", "4"})
}

func TestListsAreNotModifiedNorShared(t *testing.T) {
	back := []string{"-", "14", "-", "14", "-", "14", "-", "12", "kept", "kept"}
	kept := slices.Clone(back)
	l := back[:8]
	text, _ := impl.NotationText(6, l)
	short, _ := impl.ShortNotation(6, l)
	a, b, _ := impl.HalvesOf(6, l)
	mirrored, _ := impl.MirrorAll(l)
	read, _, _, _ := impl.ReadNotation(6, text)
	for _, result := range [][]string{a, b, mirrored, read} {
		others := []any{slices.Clone(a), slices.Clone(b), slices.Clone(mirrored), slices.Clone(read)}
		whole := result[:cap(result)]
		own := slices.Clone(whole)
		for i := range whole {
			whole[i] = "written"
		}
		if !slices.Equal(back, kept) {
			t.Fatalf("a result shares memory with the argument: %q", back)
		}
		changed := 0
		for i, other := range [][]string{a, b, mirrored, read} {
			if !reflect.DeepEqual(any(slices.Clone(other)), others[i]) {
				changed++
			}
		}
		if changed != 1 {
			t.Fatalf("%d results change together", changed)
		}
		copy(whole, own)
	}
	if again, _, _, ok := impl.ReadNotation(6, short); !ok || !slices.Equal(again, back[:8]) {
		t.Errorf("ReadNotation(6, %q) is %q, %v", short, again, ok)
	}
	if mirrored, ok := impl.MirrorAll(back[:0]); !ok || len(mirrored) != 0 || len(mirrored[:cap(mirrored)]) != 0 {
		t.Errorf("MirrorAll of nothing is %q, %v", mirrored[:cap(mirrored)], ok)
	}
}

// callNotationFunctions calls every function of chapter 3 and returns what they return.
func callNotationFunctions(n int, s string, l []string) []any {
	tidy, ok1 := impl.TidyChange(n, s)
	list, code, at, ok2 := impl.ReadNotation(n, s)
	text, ok3 := impl.NotationText(n, l)
	short, ok4 := impl.ShortNotation(n, l)
	a, b, ok5 := impl.HalvesOf(n, l)
	mirrored, ok6 := impl.MirrorAll(l)
	count, ok7 := impl.CountChanges(n, s)
	return []any{tidy, ok1, list, code, at, ok2, text, ok3, short, ok4, a, b, ok5, mirrored, ok6, count, ok7}
}

func TestNotationFunctionsAcceptAllArguments(t *testing.T) {
	lists := slices.Concat(badLists(5), badLists(8), listsOf(4, 2), [][]string{badRows(), badChanges(6)})
	texts := append(badChanges(6), "x14x14,12", "14..12", ",", ".", strings.Repeat("\x00", 200), strings.Repeat("-", 1000))
	for i, l := range lists {
		s := texts[i%len(texts)]
		// Written beyond its length, the list would change what is behind it.
		back := append(slices.Clone(l), "kept", "kept")
		kept := slices.Clone(back)
		for _, n := range append(badStages(), 3, 4, 5, 6, 7, 8) {
			first := callNotationFunctions(n, s, back[:len(l)])
			if again := callNotationFunctions(n, s, back[:len(l)]); !reflect.DeepEqual(first, again) {
				t.Fatalf("calls with %d, %q, %q return %v and then %v", n, s, l, first, again)
			}
		}
		if !slices.Equal(back, kept) {
			t.Fatalf("arguments are changed: %q", kept)
		}
	}
}

func FuzzNotationFunctions(f *testing.F) {
	for i, s := range []string{"x14x14,12", "14..12", "-.-", "x,x,x,x,x", ".", "3.1.3", "5.1.5.1.5,2", "18", "", "\xff"} {
		f.Add(i, s)
	}
	f.Fuzz(func(t *testing.T, n int, s string) {
		for _, stage := range []int{n, 3 + (n&7)%6} {
			callNotationFunctions(stage, s, strings.Split(s, "."))
			checkRead(t, stage, s)
			list, _, _, ok := impl.ReadNotation(stage, s)
			if short, okShort := impl.ShortNotation(stage, list); ok && (!okShort || short != plainShort(list)) {
				t.Fatalf("ShortNotation(%d, %q) is %q, %v", stage, list, short, okShort)
			}
		}
	})
}
