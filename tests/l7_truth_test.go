package tests

import (
	"math"
	"reflect"
	"slices"
	"strconv"
	"strings"
	"testing"

	"loop.example/g00894/impl"
)

// plainRepeats is the first 100 pairs of indices with equal rows.
func plainRepeats(l []string) [][]int {
	var repeats [][]int
	for i, row := range l {
		for k, other := range l {
			if i < k && row == other {
				repeats = append(repeats, []int{i, k})
			}
		}
		if len(repeats) > 100 {
			return repeats[:100]
		}
	}
	return repeats
}

func plainCounts(l []string) map[string]int {
	counts := map[string]int{}
	for _, row := range l {
		counts[row]++
	}
	return counts
}

// plainPlaces writes each bell of a row as its place in another row, which is what the inverse of that one does.
func plainPlaces(row, other string) string {
	places := ""
	for _, bell := range row {
		places += strconv.Itoa(strings.IndexRune(other, bell) + 1)
	}
	return places
}

// plainAround is the changes from each row to the next, around the list, and nothing if one of them does not exist.
func plainAround(l []string) []string {
	if len(l) < 2 {
		return nil
	}
	named := map[string]string{}
	for _, c := range changesOf(len(l[0])) {
		swapped, _ := plainChangeRow(len(l[0]), c)
		named[swapped] = c
	}
	var around []string
	for i, row := range l {
		c, found := named[plainPlaces(l[(i+1)%len(l)], row)]
		if !found {
			return nil
		}
		around = append(around, c)
	}
	return around
}

func plainTurned(l []string, k int) []string {
	var turned []string
	for i := range l {
		turned = append(turned, plainPlaces(l[(k+i)%len(l)], l[k]))
	}
	return turned
}

func plainMeet(a, b []string) []string {
	var met []string
	for _, row := range a {
		if slices.Contains(b, row) {
			met = append(met, row)
		}
	}
	return met
}

// without is a list without the row at one index.
func without(l []string, at int) []string {
	return slices.Delete(slices.Clone(l), at, at+1)
}

// with is a list with one row more, before the row at an index.
func with(l []string, at int, row string) []string {
	return slices.Insert(slices.Clone(l), at, row)
}

// rungLists are lists of successive rows: courses, which lead back to their first row, and parts of them.
func rungLists(n int) [][]string {
	var lists [][]string
	for i, m := range methodsOf(n) {
		if i%37 != 0 {
			continue
		}
		rows, _ := plainCourse(m)
		lists = append(lists, rows)
		for _, length := range []int{2, 3, 4, len(rows) - 1} {
			if length > 0 && length < len(rows) {
				lists = append(lists, rows[:length], rows[len(rows)-length:])
			}
		}
	}
	return lists
}

// fullLists are lists with all rows of a stage up to 6 or nearly so: once or more often, in several orders, and with one row less or more.
func fullLists(n int) [][]string {
	all := rowsOf(n)
	shuffled := plainTurned(all, len(all)-1)
	lists := [][]string{all, shuffled, with(all, 0, all[3]), with(all, len(all), all[0]), with(all, 2, all[2])}
	for _, at := range []int{0, 1, len(all) / 2, len(all) - 1} {
		lists = append(lists, without(all, at), without(shuffled, at), with(without(all, at), 0, all[(at+1)%len(all)]))
	}
	for times := 2; times*len(all) <= 800; times += 1 + times/3 {
		more := slices.Repeat(all, times)
		lists = append(lists, more, without(more, len(more)/2), with(without(more, 0), 1, all[1]))
	}
	return lists
}

// truthLists are valid lists of a stage of all kinds.
func truthLists(n int) [][]string {
	lists := append(listsOfRows(n), rungLists(n)...)
	if n <= 6 {
		return append(lists, fullLists(n)...)
	}
	return append(lists, rowsOf(n)[:799], rowsOf(n)[:800])
}

func checkRepeats(t *testing.T, l []string, want [][]int) {
	t.Helper()
	if repeats, ok := impl.RepeatsIn(l); !ok || !samePaths(repeats, want) {
		t.Fatalf("RepeatsIn(%q) is %d, %v", brief(l), repeats, ok)
	}
	if is, ok := impl.IsTrueList(l); !ok || is != (len(want) == 0) {
		t.Fatalf("IsTrueList(%q) is %v, %v", brief(l), is, ok)
	}
}

// checkAround checks the changes around a valid list, which are none where one of them does not exist.
func checkAround(t *testing.T, l []string, want []string) {
	t.Helper()
	if is, ok := impl.AreNext(l); !ok || is != (len(want) > 0) {
		t.Fatalf("AreNext(%q) is %v, %v", brief(l), is, ok)
	}
	if changes, ok := impl.ChangesIn(l); ok != (len(want) > 0) || !slices.Equal(changes, want) {
		t.Fatalf("ChangesIn(%q) is %q, %v", brief(l), brief(changes), ok)
	}
}

func checkTurned(t *testing.T, l []string, k int, want []string) {
	t.Helper()
	if turned, ok := impl.TurnList(l, k); !ok || !slices.Equal(turned, want) {
		t.Fatalf("TurnList(%q, %d) is %q, %v", brief(l), k, brief(turned), ok)
	}
}

func checkNotTurned(t *testing.T, l []string, k int) {
	t.Helper()
	if turned, ok := impl.TurnList(l, k); ok || len(turned) != 0 {
		t.Errorf("TurnList(%q, %d) is %q, %v", brief(l), k, brief(turned), ok)
	}
}

func checkMeet(t *testing.T, a, b, want []string) {
	t.Helper()
	if met, ok := impl.MeetIn(a, b); !ok || !slices.Equal(met, want) {
		t.Fatalf("MeetIn(%q, %q) is %q, %v", brief(a), brief(b), brief(met), ok)
	}
}

func checkNotMet(t *testing.T, a, b []string) {
	t.Helper()
	if met, ok := impl.MeetIn(a, b); ok || len(met) != 0 {
		t.Errorf("MeetIn(%q, %q) is %q, %v", brief(a), brief(b), brief(met), ok)
	}
}

// checkCounts checks how often each row of a stage occurs in a valid list that is not empty.
func checkCounts(t *testing.T, l []string) {
	t.Helper()
	if len(l[0]) > 6 {
		checkNotCounted(t, l)
		checkNothingMissing(t, l)
		return
	}
	counts := plainCounts(l)
	var often []int
	var missing []string
	for _, row := range rowsOf(len(l[0])) {
		often = append(often, counts[row])
		if counts[row] == 0 {
			missing = append(missing, row)
		}
	}
	if got, ok := impl.HowOften(l); !ok || !slices.Equal(got, often) {
		t.Fatalf("HowOften(%q) is %d, %v", brief(l), got, ok)
	}
	checkLevel(t, l, len(slices.Compact(slices.Clone(often))) == 1)
	if got, ok := impl.MissingIn(l); !ok || !slices.Equal(got, missing) {
		t.Fatalf("MissingIn(%q) is %q, %v", brief(l), brief(got), ok)
	}
}

func checkLevel(t *testing.T, l []string, want bool) {
	t.Helper()
	if is, ok := impl.IsLevel(l); !ok || is != want {
		t.Fatalf("IsLevel(%q) is %v, %v", brief(l), is, ok)
	}
}

func checkNotCounted(t *testing.T, l []string) {
	t.Helper()
	often, ok1 := impl.HowOften(l)
	is, ok2 := impl.IsLevel(l)
	if results := []any{often, ok1, is, ok2}; !allZero(results) {
		t.Errorf("the rows of %q are counted: %v", brief(l), results)
	}
}

func checkNothingMissing(t *testing.T, l []string) {
	t.Helper()
	if missing, ok := impl.MissingIn(l); ok || len(missing) != 0 {
		t.Errorf("MissingIn(%q) is %q, %v", brief(l), brief(missing), ok)
	}
}

// checkTruth checks all functions of chapter 7 that take one list.
func checkTruth(t *testing.T, l []string) {
	t.Helper()
	checkRepeats(t, l, plainRepeats(l))
	checkAround(t, l, plainAround(l))
	if len(l) == 0 {
		checkNotCounted(t, l)
		checkNothingMissing(t, l)
	} else {
		checkCounts(t, l)
	}
	for _, k := range []int{0, 1, 2, len(l) / 2, len(l) - 2, len(l) - 1} {
		if k >= 0 && k < len(l) {
			checkTurned(t, l, k, plainTurned(l, k))
		}
	}
	for _, k := range []int{math.MinInt, -len(l), -1, len(l), len(l) + 1, math.MaxInt} {
		if k != 0 || len(l) == 0 {
			checkNotTurned(t, l, k)
		}
	}
}

func TestTruthOfTheDocument(t *testing.T) {
	l := []string{"123", "213", "123"}
	checkRepeats(t, l, [][]int{{0, 2}})
	if often, ok := impl.HowOften(l); !ok || !slices.Equal(often, []int{2, 0, 1, 0, 0, 0}) {
		t.Errorf("HowOften is %d, %v", often, ok)
	}
	if missing, ok := impl.MissingIn(l); !ok || !slices.Equal(missing, []string{"132", "231", "312", "321"}) {
		t.Errorf("MissingIn is %q, %v", missing, ok)
	}
	checkTurned(t, []string{"123", "213", "231"}, 1, []string{"123", "132", "213"})
}

func TestTruthByTheWords(t *testing.T) {
	for n := 3; n <= 8; n++ {
		for _, l := range truthLists(n) {
			checkTruth(t, l)
		}
	}
}

func TestTruthOfEveryShortList(t *testing.T) {
	lists := [][]string{nil}
	for len(lists[0]) < 4 {
		for _, l := range slices.Clone(lists) {
			checkTruth(t, l)
		}
		var longer [][]string
		for _, l := range lists {
			for _, row := range rowsOf(3) {
				longer = append(longer, append(slices.Clone(l), row))
			}
		}
		lists = longer
	}
	for n := 4; n <= 8; n++ {
		some := someRows(n, 25)
		for _, a := range some {
			for _, b := range some {
				checkTruth(t, []string{a, b})
				checkTruth(t, []string{a, b, a})
			}
		}
	}
}

func TestTruthIsTheAbsenceOfRepeatedRows(t *testing.T) {
	for n := 3; n <= 8; n++ {
		all := rowsOf(n)
		all = all[:min(799, len(all))]
		for _, l := range [][]string{nil, {}, all[:1], all[1:], all, plainTurned(all, 4)} {
			checkRepeats(t, l, nil)
		}
		for i := 0; i < len(all); i += 1 + len(all)/10 {
			for k := i + 1; k <= len(all); k += 1 + len(all)/10 {
				checkRepeats(t, with(all, k, all[i]), [][]int{{i, k}})
			}
		}
	}
}

func TestOrderOfRepeats(t *testing.T) {
	for _, k := range []struct {
		rows    string
		repeats [][]int
	}{
		{"123 123", [][]int{{0, 1}}},
		{"123 321", nil},
		{"123 321 123 321", [][]int{{0, 2}, {1, 3}}},
		{"123 321 321 123", [][]int{{0, 3}, {1, 2}}},
		{"123 123 321 321", [][]int{{0, 1}, {2, 3}}},
		{"321 123 321 123 321", [][]int{{0, 2}, {0, 4}, {1, 3}, {2, 4}}},
		{"4321 4321 4321", [][]int{{0, 1}, {0, 2}, {1, 2}}},
		{"12345 12354 12435 12345 12435 54321", [][]int{{0, 3}, {2, 4}}},
		{"12345678 87654321 12345687 87654321", [][]int{{1, 3}}},
	} {
		checkRepeats(t, strings.Fields(k.rows), k.repeats)
	}
}

func TestAtMostAHundredRepeats(t *testing.T) {
	for n := 3; n <= 8; n++ {
		first, last := rowsOf(n)[0], rowsOf(n)[len(rowsOf(n))-1]
		// So many equal rows make 1, 78, 91, 105, 4950 and 319600 pairs, and another row beside them makes none.
		for _, k := range [][2]int{{2, 1}, {13, 78}, {14, 91}, {15, 100}, {100, 100}, {799, 100}} {
			for _, l := range [][]string{repeated(last, k[0]), append(repeated(first, k[0]), last), append([]string{last}, repeated(first, k[0])...)} {
				repeats, ok := impl.RepeatsIn(l)
				if !ok || len(repeats) != k[1] {
					t.Errorf("%d equal rows have %d pairs, %v", k[0], len(repeats), ok)
				}
				checkRepeats(t, l, plainRepeats(l))
			}
		}
		if repeats, ok := impl.RepeatsIn(repeated(last, 800)); !ok || len(repeats) != 100 || !slices.Equal(repeats[99], []int{0, 100}) {
			t.Errorf("the last of the repeats of 800 rows is not the hundredth: %d, %v", repeats, ok)
		}
	}
	// Fourteen equal rows and so many pairs of others have 99, 100 and 101 repeats.
	for pairs := 8; pairs <= 10; pairs++ {
		others := rowsOf(4)[1 : 1+pairs]
		l := slices.Concat(others, repeated("1234", 14), others)
		repeats, ok := impl.RepeatsIn(l)
		if !ok || len(repeats) != min(91+pairs, 100) {
			t.Errorf("there are %d repeats, %v", len(repeats), ok)
		}
		checkRepeats(t, l, plainRepeats(l))
	}
}

// rotated is a list from the element k on, with those before it at its end.
func rotated(l []string, k int) []string {
	return slices.Concat(l[k:], l[:k])
}

func TestTruthIsPreservedByLeftMultiplication(t *testing.T) {
	for n := 3; n <= 8; n++ {
		factors := someRows(n, 3)
		for _, l := range truthLists(n) {
			is, _ := impl.IsTrueList(l)
			repeats, _ := impl.RepeatsIn(l)
			changes, next := impl.ChangesIn(l)
			level, _ := impl.IsLevel(l)
			for _, a := range factors {
				multiplied, ok := impl.LeftTimes(a, l)
				if !ok {
					t.Fatalf("LeftTimes(%q, %q) fails", a, brief(l))
				}
				checkRepeats(t, multiplied, repeats)
				if stays, ok := impl.IsTrueList(multiplied); !ok || stays != is {
					t.Fatalf("IsTrueList(%q) is %v, %v, and %v after multiplication with %q", brief(l), is, ok, stays, a)
				}
				if again, ok := impl.ChangesIn(multiplied); ok != next || !slices.Equal(again, changes) {
					t.Fatalf("ChangesIn(%q) is %q, and %q after multiplication with %q", brief(l), brief(changes), brief(again), a)
				}
				if again, _ := impl.IsLevel(multiplied); again != level {
					t.Fatalf("IsLevel(%q) is %v, and %v after multiplication with %q", brief(l), level, again, a)
				}
			}
		}
	}
}

func TestTurnedListsKeepTruthAndChanges(t *testing.T) {
	for n := 3; n <= 8; n++ {
		for _, l := range truthLists(n) {
			is, _ := impl.IsTrueList(l)
			changes, next := impl.ChangesIn(l)
			for k := 0; k < len(l); k += 1 + len(l)/3 {
				turned, ok := impl.TurnList(l, k)
				if !ok || turned[0] != rounds8[:n] {
					t.Fatalf("TurnList(%q, %d) is %q, %v", brief(l), k, brief(turned), ok)
				}
				if stays, ok := impl.IsTrueList(turned); !ok || stays != is {
					t.Fatalf("IsTrueList(%q) is %v, %v, and %v after turning", brief(l), is, ok, stays)
				}
				if again, ok := impl.ChangesIn(turned); ok != next || next && !slices.Equal(again, rotated(changes, k)) {
					t.Fatalf("ChangesIn(%q) is %q, and %q after turning to row %d", brief(l), brief(changes), brief(again), k)
				}
				// The row that was first is now the one to turn back by.
				back, ok := impl.TurnList(turned, (len(l)-k)%len(l))
				if !ok || !slices.Equal(back, plainTurned(l, 0)) {
					t.Fatalf("TurnList(%q, %d) turned back is %q, %v", brief(l), k, brief(back), ok)
				}
			}
		}
	}
}

func TestTurnListByEachRow(t *testing.T) {
	for _, k := range []struct {
		rows   string
		k      int
		turned string
	}{
		{"123", 0, "123"}, {"231", 0, "123"},
		{"123 213 231", 0, "123 213 231"}, {"123 213 231", 2, "123 312 132"},
		{"231 312", 0, "123 231"}, {"231 312", 1, "123 312"},
		{"2341 1234 4321", 0, "1234 4123 3214"}, {"2341 1234 4321", 1, "1234 4321 2341"}, {"2341 1234 4321", 2, "1234 3214 4321"},
		{"54321 54321", 1, "12345 12345"},
		{"12345678 23456781", 1, "12345678 81234567"},
	} {
		checkTurned(t, strings.Fields(k.rows), k.k, strings.Fields(k.turned))
	}
}

func TestLevelLists(t *testing.T) {
	for n := 3; n <= 6; n++ {
		all := rowsOf(n)
		for times := 1; times*len(all) <= 800; times++ {
			level := slices.Repeat(all, times)
			checkLevel(t, level, true)
			checkLevel(t, without(level, len(level)-1), false)
			if len(level) < 800 {
				checkLevel(t, with(level, 0, all[2]), false)
			}
			if often, ok := impl.HowOften(level); !ok || len(often) != len(all) || slices.Min(often) != times || slices.Max(often) != times {
				t.Errorf("HowOften of %d times all rows is %d, %v", times, often, ok)
			}
		}
		for _, l := range [][]string{plainEvens(all), all[:1], {all[1], all[1]}, all[1:]} {
			checkLevel(t, l, false)
		}
	}
}

func TestHowOftenIsIndexedByThePlaceOfTheRow(t *testing.T) {
	for n := 3; n <= 6; n++ {
		for _, row := range someRows(n, 60) {
			place, _ := impl.PlaceOfRow(row)
			often, ok := impl.HowOften([]string{row, rounds8[:n], row})
			total := 0
			for _, count := range often {
				total += count
			}
			want := 2
			if row == rounds8[:n] {
				want = 3
			}
			if !ok || often[place] != want || total != 3 {
				t.Errorf("HowOften counts %d of %q, %d in all, %v", often[place], row, total, ok)
			}
		}
	}
}

func TestMissingRows(t *testing.T) {
	for n := 3; n <= 6; n++ {
		all := rowsOf(n)
		if missing, ok := impl.MissingIn(all); !ok || len(missing) != 0 {
			t.Errorf("MissingIn of all rows is %q, %v", missing, ok)
		}
		for i, row := range all {
			if missing, ok := impl.MissingIn(without(all, i)); !ok || !slices.Equal(missing, []string{row}) {
				t.Errorf("MissingIn without %q is %q, %v", row, missing, ok)
			}
		}
		for i := 0; i < len(all); i += 1 + len(all)/50 {
			if missing, ok := impl.MissingIn(slices.Repeat(all[i:i+1], 800)); !ok || !slices.Equal(missing, without(all, i)) {
				t.Errorf("MissingIn of %q alone is %q, %v", all[i], brief(missing), ok)
			}
		}
	}
}

// Of the stages 7 and 8 at least 4240 rows are missing in every list, and of the others at most 719.
func TestStagesOfMoreRowsThanAreCounted(t *testing.T) {
	for n := 7; n <= 8; n++ {
		all := rowsOf(n)
		for _, l := range [][]string{all[:1], all[len(all)-1:], all[:720], all[:800], all[len(all)-800:], slices.Repeat(all[:1], 800), randomRows(n, 799)} {
			checkNotCounted(t, l)
			checkNothingMissing(t, l)
			if _, ok := impl.IsTrueList(l); !ok {
				t.Errorf("IsTrueList(%q) fails", brief(l))
			}
		}
	}
}

func TestListsThatLeadAround(t *testing.T) {
	for _, k := range [][2]string{
		{"123 213", "3 3"}, {"123 132", "1 1"}, {"321 312", "1 1"}, {"123 213 123 213", "3 3 3 3"},
		{"123 213 231 321 312 132", "3 1 3 1 3 1"}, {"132 123 213 231 321 312", "1 3 1 3 1 3"},
		{"1234 2143", "- -"}, {"1234 1243 2143", "12 34 -"}, {"2143 2134 1243 1234", "12 - 12 -"}, {"1234 1324 1342", ""}, {"1234 1324", "14 14"},
		{"12345 21354 21345", "3 123 345"}, {"123456 214365", "- -"}, {"1234567 2143657 2134567", "7 127 34567"}, {"12345678 21436587 12346587 12345678 21345678", "- 5678 1234 345678 345678"},
		{"123 231", ""}, {"123 321", ""}, {"123 213 231", ""}, {"123 123", ""}, {"123 213 123", ""}, {"123 123 213 213", ""}, {"213 123 123", ""},
		{"1234 2143 2413 4231", ""}, {"1234 3412", ""}, {"12345678 87654321", ""},
	} {
		checkAround(t, strings.Fields(k[0]), strings.Fields(k[1]))
	}
}

func TestCoursesLeadAroundByTheirChanges(t *testing.T) {
	for n := 3; n <= 8; n++ {
		for i, m := range methodsOf(n) {
			if i%11 != 0 {
				continue
			}
			rows, ok := impl.CourseRows(m)
			leads, _ := impl.LeadsIn(m)
			if !ok || len(rows) != leads*len(m.Changes) {
				t.Fatalf("CourseRows(%v) is %d rows, %v", m, len(rows), ok)
			}
			checkAround(t, rows, slices.Repeat(m.Changes, leads))
		}
	}
}

func TestFewerThanTwoRowsAreNotNext(t *testing.T) {
	for _, l := range [][]string{nil, {}, make([]string, 0, 4)} {
		checkAround(t, l, nil)
	}
	for n := 3; n <= 8; n++ {
		for _, row := range someRows(n, 40) {
			checkAround(t, []string{row}, nil)
			checkAround(t, []string{row, row}, nil)
		}
	}
}

func TestRowsThatTwoListsShare(t *testing.T) {
	for _, k := range [][3]string{
		{"123 213 123", "213", "213"}, {"123 213 123", "123", "123 123"}, {"213", "123 213 123", "213"}, {"123", "123 213 123", "123"},
		{"321 123 231", "231 321 213", "321 231"}, {"231 321 213", "321 123 231", "231 321"},
		{"123 132", "213 231 312", ""}, {"123 132", "", ""}, {"", "123 132", ""}, {"", "", ""},
		{"4321 1234 4321", "1234 4321 2143", "4321 1234 4321"}, {"12345678 87654321", "87654321", "87654321"}, {"12345678", "12345687", ""},
	} {
		checkMeet(t, strings.Fields(k[0]), strings.Fields(k[1]), strings.Fields(k[2]))
	}
}

func TestMeetInByTheWords(t *testing.T) {
	for n := 3; n <= 8; n++ {
		lists := truthLists(n)
		evens := plainEvens(lists[len(lists)-1])
		odds := slices.DeleteFunc(slices.Clone(lists[len(lists)-1]), func(row string) bool { return slices.Contains(evens, row) })
		checkMeet(t, evens, odds, nil)
		checkMeet(t, odds, evens, nil)
		for i, a := range lists {
			checkMeet(t, a, a, a)
			checkMeet(t, a, rotated(a, len(a)/2), a)
			checkMeet(t, a, nil, nil)
			checkMeet(t, []string{}, a, nil)
			for _, b := range [][]string{lists[(i+7)%len(lists)], lists[(i*i+1)%len(lists)], evens, a[len(a)/2:]} {
				checkMeet(t, a, b, plainMeet(a, b))
				checkMeet(t, b, a, plainMeet(b, a))
			}
		}
	}
}

func TestListsOfTwoStagesDoNotMeet(t *testing.T) {
	for n := 3; n <= 8; n++ {
		for other := 3; other <= 8; other++ {
			if other == n {
				continue
			}
			for _, length := range []int{1, 2, 800} {
				a, b := randomRows(n, length), randomRows(other, length)
				checkNotMet(t, a, b)
				checkNotMet(t, a, b[:1])
				checkNotMet(t, a[:1], b)
			}
		}
	}
}

// callTruthFunctions calls every function of chapter 7 and returns what they return.
func callTruthFunctions(a, b []string, k int) []any {
	is, ok1 := impl.IsTrueList(a)
	repeats, ok2 := impl.RepeatsIn(a)
	often, ok3 := impl.HowOften(a)
	level, ok4 := impl.IsLevel(a)
	missing, ok5 := impl.MissingIn(a)
	next, ok6 := impl.AreNext(a)
	changes, ok7 := impl.ChangesIn(a)
	turned, ok8 := impl.TurnList(a, k)
	met, ok9 := impl.MeetIn(a, b)
	return []any{is, ok1, repeats, ok2, often, ok3, level, ok4, missing, ok5, next, ok6, changes, ok7, turned, ok8, met, ok9}
}

func TestTruthOfInvalidListsGivesZeroValues(t *testing.T) {
	for _, l := range badRowLists() {
		for _, b := range [][]string{nil, {"123"}, {rounds8, rounds8}, l} {
			for _, k := range []int{-1, 0, 1, len(l) - 1, len(l)} {
				if results := callTruthFunctions(l, b, k); !allZero(results) {
					t.Errorf("with %q, %q and %d the functions return %v", brief(l), brief(b), k, results)
				}
			}
			checkNotMet(t, b, l)
		}
		for n := 3; n <= 8; n++ {
			checkNotMet(t, []string{rounds8[:n]}, l)
			checkNotMet(t, l, []string{rounds8[:n]})
		}
	}
}

func TestTruthOfTheEmptyList(t *testing.T) {
	for _, l := range [][]string{nil, {}, make([]string, 0, 3), rowsOf(3)[:0], rowsOf(8)[6:6]} {
		checkTruth(t, l)
		for _, k := range []int{math.MinInt, -1, 0, 1, math.MaxInt} {
			checkNotTurned(t, l, k)
		}
		checkMeet(t, l, nil, nil)
		for n := 3; n <= 8; n++ {
			checkMeet(t, l, rowsOf(n)[:2], nil)
			checkMeet(t, rowsOf(n)[:2], l, nil)
		}
	}
}

func TestTruthResultsShareNoMemoryWithTheirArguments(t *testing.T) {
	for _, rows := range []string{"123 213", "123 132 123", "123 213 231 321 312 132", "2143 1234 2143 1234", "12345678 21436587"} {
		a, b := strings.Fields(rows), strings.Fields(rows)
		results := callTruthFunctions(a, b, 1)
		want := callTruthFunctions(strings.Fields(rows), strings.Fields(rows), 1)
		overwrite(a)
		overwrite(b)
		if !reflect.DeepEqual(results, want) {
			t.Errorf("results become %v with their arguments", results)
		}
		a, b = strings.Fields(rows), strings.Fields(rows)
		for _, result := range callTruthFunctions(a, b, 1) {
			switch list := result.(type) {
			case []string:
				overwrite(list)
			case []int:
				overwriteNumbers(list)
			}
			if !slices.Equal(a, strings.Fields(rows)) || !slices.Equal(b, strings.Fields(rows)) {
				t.Fatalf("arguments become %q and %q with the results", a, b)
			}
		}
		if again := callTruthFunctions(a, b, 1); !reflect.DeepEqual(again, want) {
			t.Errorf("results are %v after others are overwritten", again)
		}
	}
}

func TestRepeatsShareNoMemory(t *testing.T) {
	l := randomRows(4, 60)
	want := plainRepeats(l)
	repeats, _ := impl.RepeatsIn(l)
	for i, pair := range repeats {
		if !samePaths(repeats[i:], want[i:]) {
			t.Fatalf("repeats share memory: %d", repeats)
		}
		overwriteNumbers(pair[:cap(pair)])
	}
	checkRepeats(t, l, want)
}

func TestTruthFunctionsAcceptAllArguments(t *testing.T) {
	indexes := []int{math.MinInt, -1, 0, 1, 2, 5, 23, 719, 799, 800, math.MaxInt}
	lists := append(badRowLists(), make([]string, 1<<16), slices.Repeat([]string{strings.Repeat("12345678", 1<<10)}, 10))
	for n := 3; n <= 8; n++ {
		lists = append(lists, listsOfRows(n)...)
	}
	for i := range lists {
		a, backA := withSpareRows(lists[i])
		b, backB := withSpareRows(lists[(i*5+3)%len(lists)])
		keptA, keptB := slices.Clone(backA), slices.Clone(backB)
		k := indexes[i%len(indexes)]
		first := callTruthFunctions(a, b, k)
		if again := callTruthFunctions(a, b, k); !reflect.DeepEqual(first, again) {
			t.Fatalf("calls with %q, %q and %d return %v and then %v", brief(a), brief(b), k, first, again)
		}
		if !slices.Equal(backA, keptA) || !slices.Equal(backB, keptB) {
			t.Fatalf("arguments are changed: %q and %q", brief(keptA), brief(keptB))
		}
	}
}

func FuzzTruthFunctions(f *testing.F) {
	f.Add("123 213 123", "213", 1)
	f.Add("1234 2143 2413 4231 4321", "4321 1234", 4)
	f.Add("12345678 21436587 12345678", "87654321", 0)
	f.Add("123 1234", "123", 0)
	f.Add("", "x", math.MinInt)
	f.Fuzz(func(t *testing.T, first string, second string, k int) {
		a, b := strings.Fields(first), strings.Fields(second)
		results := callTruthFunctions(a, b, k)
		if !impl.GoodRows(a) {
			if !allZero(results) {
				t.Fatalf("with %q, %q and %d the functions return %v", a, b, k, results)
			}
			return
		}
		checkTruth(t, a)
		if impl.GoodRows(slices.Concat(a[:min(1, len(a))], b)) {
			checkMeet(t, a, b, plainMeet(a, b))
		} else if len(b) < 800 {
			checkNotMet(t, a, b)
		}
	})
}
