package tests

import (
	"math"
	"reflect"
	"slices"
	"sort"
	"strconv"
	"strings"
	"testing"

	"loop.example/g00894/impl"
)

// plainChangeRow is the row that a change makes of rounds, by the words of the document; false if c is no change.
func plainChangeRow(n int, c string) (string, bool) {
	if n < 3 || n > 8 || c == "" || c == "-" && n%2 != 0 {
		return "", false
	}
	stays := map[int]bool{}
	if c != "-" {
		last := 0
		for i := range len(c) {
			place := int(c[i]) - '0'
			if place <= last || place > n || (place-last)%2 != 1 {
				return "", false
			}
			stays[place] = true
			last = place
		}
		if (n-last)%2 != 0 {
			return "", false
		}
	}
	row := ""
	for place := 1; place <= n; place++ {
		if stays[place] {
			row += strconv.Itoa(place)
		} else {
			row += strconv.Itoa(place+1) + strconv.Itoa(place)
			place++
		}
	}
	return row, len(stays) < n
}

// changesOf lists the changes of a stage in bytewise order, made without the program from all sets of places.
func changesOf(n int) []string {
	var changes []string
	for set := range 1 << n {
		c := ""
		for place := 1; place <= n; place++ {
			if set>>(place-1)&1 == 1 {
				c += strconv.Itoa(place)
			}
		}
		if c == "" {
			c = "-"
		}
		if _, ok := plainChangeRow(n, c); ok {
			changes = append(changes, c)
		}
	}
	sort.Strings(changes)
	return changes
}

// badStages are numbers that are no stages.
func badStages() []int {
	return []int{math.MinInt, -48, -8, -3, -1, 0, 1, 2, 9, 10, 12, 48, 256 + 4, math.MaxInt}
}

// badChanges are strings that are no changes of the stage n.
func badChanges(n int) []string {
	bad := []string{
		"", "0", "9", "x", "X", " ", "--", "-1", "1-", "-14", "14-", "1.4", "1 4", " 14", "14 ", "14\n", "+14", "a4",
		"2", "4", "6", "8", "24", "13", "15", "1357", "135", "145", "11", "114", "144", "1414", "41", "321", "41x",
		"10", "01", "012", "109", "19", "39", "18:", "1/",
		rounds8[:n], rounds8, "123456789", strings.Repeat("14", 50), strings.Repeat("1", 1000),
		"\x00", "1\x00", "\x014", "\xff", "1\xff", "\xb1\xb4", "\u0661", "1\u0664", "\uff11\uff14", "1\ufffd", "\u2212", "\u2013", "\u0131", "\u0134",
	}
	if n%2 == 1 {
		bad = append(bad, "-")
	}
	for place := n + 1; place <= 9; place++ {
		bad = append(bad, strconv.Itoa(place), "1"+strconv.Itoa(place), rounds8[:n-2]+strconv.Itoa(place))
	}
	return slices.DeleteFunc(bad, func(c string) bool {
		_, ok := plainChangeRow(n, c)
		return ok
	})
}

func mustApply(t *testing.T, row, c string) string {
	t.Helper()
	r, ok := impl.Apply(row, c)
	if !ok {
		t.Fatalf("Apply(%q, %q) fails", row, c)
	}
	return r
}

func TestAllChangesOfEachStage(t *testing.T) {
	known := map[int][]string{
		3: {"1", "3"},
		4: {"-", "12", "14", "34"},
		5: {"1", "123", "125", "145", "3", "345", "5"},
		6: {"-", "12", "1234", "1236", "1256", "14", "1456", "16", "34", "3456", "36", "56"},
	}
	counts := map[int]int{3: 2, 4: 4, 5: 7, 6: 12, 7: 20, 8: 33}
	for n := 3; n <= 8; n++ {
		changes, ok := impl.AllChanges(n)
		if !ok || !reflect.DeepEqual(changes, changesOf(n)) || len(changes) != counts[n] {
			t.Errorf("AllChanges(%d) is %q, %v", n, changes, ok)
		}
		if known[n] != nil && !reflect.DeepEqual(changes, known[n]) {
			t.Errorf("AllChanges(%d) is %q", n, changes)
		}
		if !sort.StringsAreSorted(changes) || slices.Contains(changes, "-") != (n%2 == 0) {
			t.Errorf("AllChanges(%d) is %q", n, changes)
		}
	}
}

func TestGoodChangeOnEveryShortString(t *testing.T) {
	for n := 3; n <= 8; n++ {
		var visit func(c string)
		visit = func(c string) {
			_, want := plainChangeRow(n, c)
			if good := impl.GoodChange(n, c); good != want {
				t.Fatalf("GoodChange(%d, %q) is %v", n, c, good)
			}
			if len(c) < 4 {
				for _, letter := range "-/0123456789:x" {
					visit(c + string(letter))
				}
			}
		}
		visit("")
	}
}

func TestGoodChangeTakesExactlyAllChanges(t *testing.T) {
	for n := 3; n <= 8; n++ {
		for _, c := range changesOf(n) {
			if !impl.GoodChange(n, c) {
				t.Errorf("GoodChange(%d, %q) is false", n, c)
			}
		}
		for _, c := range badChanges(n) {
			if impl.GoodChange(n, c) {
				t.Errorf("GoodChange(%d, %q) is true", n, c)
			}
		}
	}
	for _, n := range badStages() {
		for _, c := range []string{"-", "1", "2", "12", "14", "3", "16", "", "12345678", "1234567"} {
			if impl.GoodChange(n, c) {
				t.Errorf("GoodChange(%d, %q) is true", n, c)
			}
		}
	}
}

func TestChangeOfAllPlacesButTwo(t *testing.T) {
	for n := 3; n <= 8; n++ {
		for low := 1; low < n; low++ {
			c := rounds8[:low-1] + rounds8[low+1:n]
			want := rounds8[:low-1] + rounds8[low:low+1] + rounds8[low-1:low] + rounds8[low+1:n]
			if r, ok := impl.ChangeRow(n, c); !ok || r != want {
				t.Errorf("ChangeRow(%d, %q) is %q, %v and not %s", n, c, r, ok, want)
			}
			if swaps, ok := impl.SwapsOf(n, c); !ok || !reflect.DeepEqual(swaps, []int{low}) {
				t.Errorf("SwapsOf(%d, %q) is %v, %v", n, c, swaps, ok)
			}
		}
		if impl.GoodChange(n, rounds8[:n]) {
			t.Errorf("the change of stage %d that keeps all places is good", n)
		}
	}
}

func TestChangeRowOfEveryChange(t *testing.T) {
	for n := 3; n <= 8; n++ {
		for _, c := range changesOf(n) {
			want, _ := plainChangeRow(n, c)
			if r, ok := impl.ChangeRow(n, c); !ok || r != want {
				t.Errorf("ChangeRow(%d, %q) is %q, %v and not %s", n, c, r, ok, want)
			}
		}
	}
	known := map[string]string{"14": "132465", "-": "214365", "16": "132546", "1236": "123546", "3456": "213456"}
	for c, want := range known {
		if r, _ := impl.ChangeRow(6, c); r != want {
			t.Errorf("ChangeRow(6, %q) is %q", c, r)
		}
	}
}

func TestApplyIsTheProductWithTheChangeRow(t *testing.T) {
	if r := mustApply(t, "654321", "-"); r != "563412" {
		t.Error("654321 under - is", r)
	}
	if r := mustApply(t, "3142", "14"); r != "3412" {
		t.Error("3142 under 14 is", r)
	}
	for n := 3; n <= 8; n++ {
		for _, c := range changesOf(n) {
			changeRow, _ := plainChangeRow(n, c)
			for _, row := range someRows(n, 300) {
				if r := mustApply(t, row, c); r != plainProduct(row, changeRow) {
					t.Fatalf("Apply(%s, %q) is %s", row, c, r)
				}
			}
		}
	}
}

func TestApplyTwiceRestoresTheRow(t *testing.T) {
	for n := 3; n <= 8; n++ {
		changes, _ := impl.AllChanges(n)
		for _, c := range changes {
			for _, row := range someRows(n, 300) {
				next := mustApply(t, row, c)
				if next == row || mustApply(t, next, c) != row {
					t.Fatalf("%s under %q is %s and then %s", row, c, next, mustApply(t, next, c))
				}
			}
		}
	}
}

func TestApplyNeedsRowAndChangeOfOneStage(t *testing.T) {
	for _, bad := range badRows() {
		for _, c := range []string{"-", "1", "3", "14", "12", "16", ""} {
			if r, ok := impl.Apply(bad, c); ok || r != "" {
				t.Errorf("Apply(%q, %q) is %q, %v", bad, c, r, ok)
			}
		}
	}
	for n := 3; n <= 8; n++ {
		for _, c := range badChanges(n) {
			if r, ok := impl.Apply(rounds8[:n], c); ok || r != "" {
				t.Errorf("Apply(%q, %q) is %q, %v", rounds8[:n], c, r, ok)
			}
		}
	}
}

func TestPlacesAndSwapsPartitionTheStage(t *testing.T) {
	for n := 3; n <= 8; n++ {
		changes, _ := impl.AllChanges(n)
		for _, c := range changes {
			places, okPlaces := impl.PlacesOf(n, c)
			swaps, okSwaps := impl.SwapsOf(n, c)
			if !okPlaces || !okSwaps || !slices.IsSorted(places) || !slices.IsSorted(swaps) || len(swaps) == 0 {
				t.Fatalf("stage %d, change %q: places %v, %v, swaps %v, %v", n, c, places, okPlaces, swaps, okSwaps)
			}
			var all []int
			all = append(all, places...)
			for _, low := range swaps {
				all = append(all, low, low+1)
			}
			sort.Ints(all)
			want := []int{1, 2, 3, 4, 5, 6, 7, 8}[:n]
			if !reflect.DeepEqual(all, want) {
				t.Fatalf("stage %d, change %q: places %v and swaps %v", n, c, places, swaps)
			}
		}
	}
}

func TestPlacesAndSwapsAgreeWithTheRow(t *testing.T) {
	for n := 3; n <= 8; n++ {
		for _, c := range changesOf(n) {
			places, _ := impl.PlacesOf(n, c)
			text := ""
			for _, place := range places {
				text += strconv.Itoa(place)
			}
			if text != strings.Trim(c, "-") {
				t.Errorf("PlacesOf(%d, %q) is %v", n, c, places)
			}
			row := []byte(rounds8[:n])
			swaps, _ := impl.SwapsOf(n, c)
			for _, low := range swaps {
				row[low-1], row[low] = row[low], row[low-1]
			}
			if want, _ := plainChangeRow(n, c); string(row) != want {
				t.Errorf("SwapsOf(%d, %q) is %v", n, c, swaps)
			}
		}
	}
	if swaps, _ := impl.SwapsOf(6, "14"); !reflect.DeepEqual(swaps, []int{2, 5}) {
		t.Error("SwapsOf(6, 14) is", swaps)
	}
	if swaps, _ := impl.SwapsOf(8, "-"); !reflect.DeepEqual(swaps, []int{1, 3, 5, 7}) {
		t.Error("SwapsOf(8, -) is", swaps)
	}
	if places, ok := impl.PlacesOf(8, "-"); !ok || len(places) != 0 {
		t.Error("PlacesOf(8, -) is", places, ok)
	}
}

func TestBetweenRowsFindsEveryChange(t *testing.T) {
	for n := 3; n <= 8; n++ {
		for _, c := range changesOf(n) {
			for _, row := range someRows(n, 200) {
				if found, ok := impl.BetweenRows(row, mustApply(t, row, c)); !ok || found != c {
					t.Fatalf("BetweenRows(%s, %s) is %q, %v and not %s", row, mustApply(t, row, c), found, ok, c)
				}
			}
		}
	}
	if c, ok := impl.BetweenRows("1234", "2134"); !ok || c != "34" {
		t.Error("BetweenRows(1234, 2134) is", c, ok)
	}
}

func TestBetweenRowsThatNoChangeJoins(t *testing.T) {
	for n := 3; n <= 8; n++ {
		leads := map[string]string{}
		for _, c := range changesOf(n) {
			row, _ := plainChangeRow(n, c)
			leads[row] = c
		}
		for _, a := range someRows(n, 5) {
			for _, q := range rowsOf(n) {
				b := plainProduct(a, q)
				c, ok := impl.BetweenRows(a, b)
				if want, joined := leads[q]; ok != joined || c != want {
					t.Fatalf("BetweenRows(%s, %s) is %q, %v", a, b, c, ok)
				}
			}
		}
	}
	for _, pair := range [][2]string{{"123", "321"}, {"123", "231"}, {"123", "123"}, {"12345678", "12345678"}, {"1234", "4231"}, {"12345678", "82345671"}} {
		if c, ok := impl.BetweenRows(pair[0], pair[1]); ok || c != "" {
			t.Errorf("BetweenRows(%s, %s) is %q, %v", pair[0], pair[1], c, ok)
		}
	}
}

func TestBetweenRowsNeedsTwoRowsOfOneStage(t *testing.T) {
	for n := 3; n <= 8; n++ {
		for k := 3; k <= 8; k++ {
			if c, ok := impl.BetweenRows(rounds8[:n], "21436587"[:k-k%2]+rounds8[k-k%2:k]); ok != (n == k) || (c != "") != ok {
				t.Errorf("BetweenRows of stages %d and %d: %q, %v", n, k, c, ok)
			}
		}
	}
	for _, bad := range badRows() {
		for _, other := range []string{"123", "2143", "87654321", bad} {
			if c, ok := impl.BetweenRows(bad, other); ok || c != "" {
				t.Errorf("BetweenRows(%q, %q) is %q, %v", bad, other, c, ok)
			}
			if c, ok := impl.BetweenRows(other, bad); ok || c != "" {
				t.Errorf("BetweenRows(%q, %q) is %q, %v", other, bad, c, ok)
			}
		}
	}
}

func TestMirrorChange(t *testing.T) {
	known := map[string]string{"14": "36", "-": "-", "16": "16", "12": "56", "1236": "1456", "3456": "1234", "34": "34"}
	for c, want := range known {
		if r, ok := impl.MirrorChange(6, c); !ok || r != want {
			t.Errorf("MirrorChange(6, %q) is %q, %v", c, r, ok)
		}
	}
	for n := 3; n <= 8; n++ {
		for _, c := range changesOf(n) {
			want := ""
			for i := len(c) - 1; i >= 0 && c != "-"; i-- {
				want += strconv.Itoa(n + 1 - int(c[i]-'0'))
			}
			if c == "-" {
				want = "-"
			}
			mirrored, ok := impl.MirrorChange(n, c)
			if !ok || mirrored != want || !impl.GoodChange(n, mirrored) {
				t.Errorf("MirrorChange(%d, %q) is %q, %v and not %s", n, c, mirrored, ok, want)
			}
			if back, ok := impl.MirrorChange(n, mirrored); !ok || back != c {
				t.Errorf("MirrorChange(%d, %q) is %q, %v and not %s", n, mirrored, back, ok, c)
			}
		}
	}
}

func checkChangeFailures(t *testing.T, n int, c string) {
	t.Helper()
	if r, ok := impl.ChangeRow(n, c); ok || r != "" {
		t.Errorf("ChangeRow(%d, %q) is %q, %v", n, c, r, ok)
	}
	if swaps, ok := impl.SwapsOf(n, c); ok || len(swaps) != 0 {
		t.Errorf("SwapsOf(%d, %q) is %v, %v", n, c, swaps, ok)
	}
	if places, ok := impl.PlacesOf(n, c); ok || len(places) != 0 {
		t.Errorf("PlacesOf(%d, %q) is %v, %v", n, c, places, ok)
	}
	if mirrored, ok := impl.MirrorChange(n, c); ok || mirrored != "" {
		t.Errorf("MirrorChange(%d, %q) is %q, %v", n, c, mirrored, ok)
	}
}

func TestInvalidChangesGiveZeroValues(t *testing.T) {
	for n := 3; n <= 8; n++ {
		for _, c := range badChanges(n) {
			checkChangeFailures(t, n, c)
		}
	}
	for _, n := range badStages() {
		if changes, ok := impl.AllChanges(n); ok || len(changes) != 0 {
			t.Errorf("AllChanges(%d) is %q, %v", n, changes, ok)
		}
		for _, c := range []string{"-", "1", "2", "12", "14", "3", ""} {
			checkChangeFailures(t, n, c)
		}
	}
}

func TestChangeResultsAreNew(t *testing.T) {
	for n := 3; n <= 8; n++ {
		changes, _ := impl.AllChanges(n)
		kept := slices.Clone(changes)
		for i := range changes {
			changes[i] = "x"
		}
		if again, _ := impl.AllChanges(n); !reflect.DeepEqual(again, kept) {
			t.Errorf("a later AllChanges(%d) is changed: %q", n, again)
		}
		for _, c := range kept {
			places, _ := impl.PlacesOf(n, c)
			swaps, _ := impl.SwapsOf(n, c)
			keptPlaces, keptSwaps := slices.Clone(places), slices.Clone(swaps)
			for i := range places {
				places[i] = 9
			}
			for i := range swaps {
				swaps[i] = 9
			}
			if again, _ := impl.PlacesOf(n, c); !slices.Equal(again, keptPlaces) {
				t.Errorf("a later PlacesOf(%d, %q) is changed: %v", n, c, again)
			}
			if again, _ := impl.SwapsOf(n, c); !slices.Equal(again, keptSwaps) {
				t.Errorf("a later SwapsOf(%d, %q) is changed: %v", n, c, again)
			}
		}
	}
}

// callChangeFunctions calls every function of chapter 2 and returns what they return.
func callChangeFunctions(a, b, c string, n int) []any {
	row, ok1 := impl.ChangeRow(n, c)
	next, ok2 := impl.Apply(a, c)
	changes, ok3 := impl.AllChanges(n)
	between, ok4 := impl.BetweenRows(a, b)
	swaps, ok5 := impl.SwapsOf(n, c)
	places, ok6 := impl.PlacesOf(n, c)
	mirrored, ok7 := impl.MirrorChange(n, c)
	return []any{impl.GoodChange(n, c), row, ok1, next, ok2, changes, ok3, between, ok4, swaps, ok5, places, ok6, mirrored, ok7}
}

func TestChangeFunctionsAcceptAllArguments(t *testing.T) {
	rows := append(badRows(), "123", "132", "4321", "21436587", "23156748")
	changes := append(badChanges(6), "-", "1", "12", "14", "3", "1236", "123456", "1458")
	stages := append(badStages(), 3, 4, 5, 6, 7, 8)
	for i, a := range rows {
		b := rows[len(rows)-1-i]
		for _, c := range changes {
			kept := strings.Clone(a) + strings.Clone(b) + strings.Clone(c)
			for _, n := range stages {
				first := callChangeFunctions(a, b, c, n)
				if again := callChangeFunctions(a, b, c, n); !reflect.DeepEqual(first, again) {
					t.Fatalf("calls with %q, %q, %q, %d return %v and then %v", a, b, c, n, first, again)
				}
			}
			if a+b+c != kept {
				t.Fatalf("arguments are changed: %q", kept)
			}
		}
	}
}

func FuzzChangeFunctions(f *testing.F) {
	for i, c := range badChanges(8) {
		f.Add("2143", "1324", c, i%10)
	}
	f.Add("654321", "563412", "-", 6)
	f.Fuzz(func(t *testing.T, a, b, c string, n int) {
		callChangeFunctions(a, b, c, n)
		if _, want := plainChangeRow(n, c); impl.GoodChange(n, c) != want {
			t.Fatalf("GoodChange(%d, %q) is %v", n, c, !want)
		}
	})
}
