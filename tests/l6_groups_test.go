package tests

import (
	"math"
	"reflect"
	"slices"
	"strconv"
	"strings"
	"testing"

	"loop.example/g00894/impl"
)

// generators are rows, separated by blanks, that generate a group of so many rows.
type generators struct {
	rows string
	size int
}

// smallGroups are groups of at most 720 rows: the orders of groups divide 8!, and no number from 721 to 801 does.
func smallGroups() []generators {
	return []generators{
		{"123", 1}, {"213", 2}, {"231", 3}, {"312", 3}, {"213 231", 6}, {"213 132", 6},
		{"1234", 1}, {"2134", 2}, {"2143", 2}, {"2341", 4}, {"2143 3412", 4}, {"2134 1243", 4}, {"1342 1243", 6}, {"2341 4321", 8}, {"2314 2143", 12}, {"2134 2341", 24},
		{"12345", 1}, {"23451", 5}, {"23154", 6}, {"23451 15432", 10}, {"23145 12354 21345", 12}, {"23451 13524", 20}, {"23451 23145", 60}, {"21345 23451", 120},
		{"123456", 1}, {"234561", 6}, {"231456 123564", 9}, {"234561 654321", 12}, {"213456 341256 345612", 48}, {"213456 231456 456123", 72}, {"234516 123564", 360}, {"213456 234561", 720},
		{"1234567", 1}, {"2345671", 7}, {"2315476", 6}, {"2345671 1357246", 21}, {"2345671 1473625", 42}, {"2134567 2341567 1234675 1234657", 144}, {"2345671 2164537", 168}, {"2134567 2345167 1234576", 240}, {"2345167 1235647", 360}, {"2134567 2345617", 720},
		{"12345678", 1}, {"23456781", 8}, {"23451786", 15}, {"23456781 87654321", 16}, {"23456718 84726531", 56}, {"23456718 84726531 13572468", 168}, {"23456718 14736258 82563471", 336}, {"21345678 34125678 34567812", 384}, {"21345678 23415678 12346578 12346785", 576}, {"21345678 23451678 12345768 12345786", 720}, {"21345678 23456178", 720}, {"23451678 12356478 12345687", 720},
	}
}

// largeGroups are rows that generate groups of more than 800 rows.
func largeGroups() []string {
	return []string{
		"2345671 2314567", "2345167 1234675", "2134567 2345671", "2345671 1234576", "1234576 1234657 1235467 1243567 1324567 2134567",
		"21345678 23456178 12345687", "23456718 84726531 82563471", "21345678 23415678 56781234", "23145678 34567812 12456783", "21345678 23456781", "23456718 12345687", "23456781 13245678", "12345687 12345768 12346578 12354678 12435678 13245678 21345678",
	}
}

// plainGroup is rounds and all that follows from it by multiplying with generators on the left; it stops at 1000 rows.
func plainGroup(gens []string) []string {
	group := []string{rounds8[:len(gens[0])]}
	seen := map[string]bool{group[0]: true}
	for i := 0; i < len(group) && len(group) < 1000; i++ {
		for _, gen := range gens {
			if product := plainProduct(gen, group[i]); !seen[product] {
				seen[product] = true
				group = append(group, product)
			}
		}
	}
	slices.Sort(group)
	return group
}

// plainIsGroup tells whether different rows contain rounds and every product of two of them.
func plainIsGroup(l []string) bool {
	seen := map[string]bool{}
	for _, row := range l {
		seen[row] = true
	}
	for _, a := range l {
		for _, b := range l {
			if !seen[plainProduct(a, b)] {
				return false
			}
		}
	}
	return len(l) > 0 && seen[rounds8[:len(l[0])]]
}

func plainCoset(r string, group []string) []string {
	var coset []string
	for _, g := range group {
		coset = append(coset, plainProduct(r, g))
	}
	slices.Sort(coset)
	return coset
}

func plainCosets(group []string, l []string) []string {
	var leasts []string
	for _, r := range l {
		leasts = append(leasts, plainCoset(r, group)[0])
	}
	slices.Sort(leasts)
	return slices.Compact(leasts)
}

// plainOrbits joins the numbers between which the rows lead by any number of steps.
func plainOrbits(gens []string, n int) [][]int {
	var joined [9][9]bool
	for i := 1; i <= n; i++ {
		joined[i][i] = true
		for _, gen := range gens {
			image := int(gen[i-1] - '0')
			joined[i][image], joined[image][i] = true, true
		}
	}
	for k := 1; k <= n; k++ {
		for i := 1; i <= n; i++ {
			for j := 1; j <= n; j++ {
				joined[i][j] = joined[i][j] || joined[i][k] && joined[k][j]
			}
		}
	}
	var orbits [][]int
	for i := 1; i <= n; i++ {
		var orbit []int
		for j := 1; j <= n; j++ {
			if joined[i][j] {
				orbit = append(orbit, j)
			}
		}
		if orbit[0] == i {
			orbits = append(orbits, orbit)
		}
	}
	return orbits
}

func plainEvens(l []string) []string {
	var evens []string
	for _, row := range l {
		if swapsToSort(row)%2 == 0 {
			evens = append(evens, row)
		}
	}
	return evens
}

// subsetsOf lists all lists that take some rows, possibly none, in their order.
func subsetsOf(rows []string) [][]string {
	subsets := [][]string{nil}
	for _, row := range rows {
		for _, subset := range slices.Clone(subsets) {
			subsets = append(subsets, append(slices.Clone(subset), row))
		}
	}
	return subsets
}

// listsOfRows are valid lists of a stage: none, one row, all rows, repeated rows, and up to MaxRows rows.
func listsOfRows(n int) [][]string {
	some := someRows(n, 20)
	lists := [][]string{nil, {}, some, slices.Repeat(some[1:2], 800)}
	for _, row := range some {
		lists = append(lists, []string{row}, []string{row, row}, []string{row, some[0], row})
	}
	for _, length := range []int{2, 3, 24, 799, 800} {
		l := randomRows(n, length)
		lists = append(lists, l, slices.Sorted(slices.Values(l)), slices.Compact(slices.Sorted(slices.Values(l))), plainEvens(l))
	}
	return lists
}

// badRowLists are lists that are not valid.
func badRowLists() [][]string {
	var lists [][]string
	for _, row := range badRows() {
		lists = append(lists, []string{row}, []string{row, row}, []string{"123", row}, []string{row, "1234", "2143"}, []string{"12345678", row, "12345678"})
	}
	for n := 3; n <= 8; n++ {
		for other := 3; other <= 8; other++ {
			if other != n {
				a, b := rounds8[:n], rounds8[:other]
				lists = append(lists, []string{a, b}, []string{a, a, b}, append(slices.Repeat([]string{a}, 799), b))
			}
		}
		for _, length := range []int{801, 802, 1600} {
			lists = append(lists, randomRows(n, length), slices.Repeat([]string{rounds8[:n]}, length))
		}
		lists = append(lists, append(slices.Repeat([]string{rounds8[:n]}, 799), ""))
	}
	return append(lists, rowsOf(7), rowsOf(8))
}

// brief is a list for a message: the first rows of a long one and its length.
func brief(l []string) []string {
	if len(l) <= 30 {
		return l
	}
	return append(slices.Clone(l[:10]), strconv.Itoa(len(l))+" rows")
}

func mustClose(t *testing.T, gens []string) []string {
	t.Helper()
	group, ok := impl.CloseRows(gens)
	if !ok {
		t.Fatalf("CloseRows(%q) fails", brief(gens))
	}
	return group
}

func checkClose(t *testing.T, gens []string) {
	t.Helper()
	want := plainGroup(gens)
	if len(want) > 800 {
		want = nil
	}
	if group, ok := impl.CloseRows(gens); ok != (want != nil) || !slices.Equal(group, want) {
		t.Fatalf("CloseRows(%q) is %d rows %q, %v", brief(gens), len(group), brief(group), ok)
	}
}

func checkIsGroup(t *testing.T, l []string, want bool) {
	t.Helper()
	if is, ok := impl.IsGroup(l); is != want || !ok {
		t.Fatalf("IsGroup of %d rows %q is %v, %v", len(l), brief(l), is, ok)
	}
}

func checkCoset(t *testing.T, group []string, r string) []string {
	t.Helper()
	coset, ok := impl.CosetOf(group, r)
	if !ok || !slices.Equal(coset, plainCoset(r, group)) {
		t.Fatalf("CosetOf(%q, %q) is %q, %v", brief(group), r, brief(coset), ok)
	}
	return coset
}

func checkCosets(t *testing.T, group []string, l []string) {
	t.Helper()
	if leasts, ok := impl.CosetsIn(group, l); !ok || !slices.Equal(leasts, plainCosets(group, l)) {
		t.Fatalf("CosetsIn(%q, %q) is %q, %v", brief(group), brief(l), brief(leasts), ok)
	}
}

func checkOrbits(t *testing.T, gens []string, n int, want [][]int) {
	t.Helper()
	if orbits, ok := impl.OrbitsOf(gens, n); !ok || !samePaths(orbits, want) {
		t.Fatalf("OrbitsOf(%q, %d) is %d, %v", brief(gens), n, orbits, ok)
	}
}

func checkNoCoset(t *testing.T, group []string, r string) {
	t.Helper()
	if coset, ok := impl.CosetOf(group, r); ok || len(coset) != 0 {
		t.Errorf("CosetOf(%q, %q) is %q, %v", brief(group), r, brief(coset), ok)
	}
}

func checkNoCosets(t *testing.T, group []string, l []string) {
	t.Helper()
	if leasts, ok := impl.CosetsIn(group, l); ok || len(leasts) != 0 {
		t.Errorf("CosetsIn(%q, %q) is %q, %v", brief(group), brief(l), brief(leasts), ok)
	}
}

func TestGroupsOfTheDocument(t *testing.T) {
	group := mustClose(t, []string{"2134"})
	if !slices.Equal(group, []string{"1234", "2134"}) {
		t.Errorf("CloseRows is %q", group)
	}
	if coset, ok := impl.CosetOf(group, "1324"); !ok || !slices.Equal(coset, []string{"1324", "3124"}) {
		t.Errorf("CosetOf is %q, %v", coset, ok)
	}
	if leasts, ok := impl.CosetsIn(group, []string{"3124", "1324", "2134"}); !ok || !slices.Equal(leasts, []string{"1234", "1324"}) {
		t.Errorf("CosetsIn is %q, %v", leasts, ok)
	}
	checkOrbits(t, []string{"2134"}, 4, [][]int{{1, 2}, {3}, {4}})
}

func TestListsOfRowsByTheWords(t *testing.T) {
	for n := 3; n <= 8; n++ {
		factors := someRows(n, 5)
		for _, l := range listsOfRows(n) {
			if !impl.GoodRows(l) {
				t.Fatalf("GoodRows(%q) is false", brief(l))
			}
			sorted := slices.Clone(l)
			slices.Sort(sorted)
			if got, ok := impl.SortRows(l); !ok || !slices.Equal(got, sorted) {
				t.Fatalf("SortRows(%q) is %q, %v", brief(l), brief(got), ok)
			}
			if got, ok := impl.EvenOnes(l); !ok || !slices.Equal(got, plainEvens(l)) {
				t.Fatalf("EvenOnes(%q) is %q, %v", brief(l), brief(got), ok)
			}
			for _, a := range factors {
				var want []string
				for _, row := range l {
					want = append(want, plainProduct(a, row))
				}
				if got, ok := impl.LeftTimes(a, l); !ok || !slices.Equal(got, want) {
					t.Fatalf("LeftTimes(%q, %q) is %q, %v", a, brief(l), brief(got), ok)
				}
			}
			checkOrbits(t, l, n, plainOrbits(l, n))
		}
	}
}

func TestSortRowsKeepsRepeatedRows(t *testing.T) {
	for _, k := range [][2]string{
		{"321 123 321", "123 321 321"}, {"123 123 123", "123 123 123"}, {"4321 1234 2143 1234 4321", "1234 1234 2143 4321 4321"},
		{"21345 12354 12345 21345", "12345 12354 21345 21345"}, {"87654321 12345678 87654321", "12345678 87654321 87654321"},
	} {
		if got, ok := impl.SortRows(strings.Fields(k[0])); !ok || !slices.Equal(got, strings.Fields(k[1])) {
			t.Errorf("SortRows(%s) is %q, %v", k[0], got, ok)
		}
	}
}

func TestEvenOnesKeepTheirOrder(t *testing.T) {
	for _, k := range [][2]string{
		{"321 231 123 132 231 312", "231 123 231 312"}, {"213 132 321", ""}, {"312 123 231", "312 123 231"}, {"2134", ""}, {"4321", "4321"},
		{"2143 2134 1234 3412 2341", "2143 1234 3412"}, {"21345 12354 21354 21354", "21354 21354"}, {"21436587 21436578", "21436587"},
	} {
		if got, ok := impl.EvenOnes(strings.Fields(k[0])); !ok || !slices.Equal(got, strings.Fields(k[1])) {
			t.Errorf("EvenOnes(%s) is %q, %v", k[0], got, ok)
		}
	}
}

func TestLeftTimesMultipliesOnTheLeft(t *testing.T) {
	for _, k := range [][3]string{
		{"2143", "1324 1234 1324", "2413 2143 2413"}, {"2314", "2314 1243", "3124 2341"}, {"132", "213 213", "312 312"}, {"12345", "54321 23451", "54321 23451"},
	} {
		if got, ok := impl.LeftTimes(k[0], strings.Fields(k[1])); !ok || !slices.Equal(got, strings.Fields(k[2])) {
			t.Errorf("LeftTimes(%s, %s) is %q, %v", k[0], k[1], got, ok)
		}
	}
}

func TestGroupsOfKnownSize(t *testing.T) {
	for _, k := range smallGroups() {
		gens := strings.Fields(k.rows)
		group := mustClose(t, gens)
		if len(group) != k.size {
			t.Errorf("CloseRows(%q) has %d rows, not %d", brief(gens), len(group), k.size)
		}
		checkClose(t, gens)
		// Neither the order of the generators nor products of theirs change the group, nor do its own rows.
		slices.Reverse(gens)
		for _, others := range [][]string{gens, slices.Concat(gens, gens), append(gens, plainProduct(gens[0], gens[len(gens)-1])), group} {
			if again := mustClose(t, others); !slices.Equal(again, group) {
				t.Errorf("CloseRows(%q) has %d rows, not %d", brief(others), len(again), k.size)
			}
		}
	}
}

func TestGroupsAreWholeStagesOrTheirEvenRows(t *testing.T) {
	for n := 3; n <= 6; n++ {
		all := rowsOf(n)
		most := min(len(all), 800)
		if group := mustClose(t, all[:most]); !slices.Equal(group, all) {
			t.Errorf("all rows of stage %d generate %d rows", n, len(group))
		}
		if group := mustClose(t, randomRows(n, 800)); !slices.Equal(group, all) {
			t.Errorf("800 rows of stage %d generate %d rows", n, len(group))
		}
		evens := plainEvens(all)
		if group := mustClose(t, evens); !slices.Equal(group, evens) {
			t.Errorf("the even rows of stage %d generate %d rows", n, len(group))
		}
		checkIsGroup(t, all, true)
		checkIsGroup(t, evens, true)
	}
}

func TestGroupsOfMoreThanMaxRows(t *testing.T) {
	lists := [][]string{randomRows(7, 800), randomRows(8, 800), rowsOf(7)[:800], rowsOf(8)[:800], rowsOf(7)[:721], rowsOf(8)[:721], plainEvens(rowsOf(7)[:800])}
	for _, rows := range largeGroups() {
		lists = append(lists, strings.Fields(rows))
	}
	for _, gens := range lists {
		if group, ok := impl.CloseRows(gens); ok || len(group) != 0 {
			t.Errorf("CloseRows(%q) has %d rows, %v", brief(gens), len(group), ok)
		}
	}
	// The first 720 rows of the stages 7 and 8 are those that leave the first bells in their places.
	for n := 7; n <= 8; n++ {
		if group := mustClose(t, rowsOf(n)[:720]); !slices.Equal(group, rowsOf(n)[:720]) {
			t.Errorf("720 rows of stage %d generate %d rows", n, len(group))
		}
		checkIsGroup(t, rowsOf(n)[:720], true)
		checkIsGroup(t, rowsOf(n)[:719], false)
		checkIsGroup(t, rowsOf(n)[:721], false)
		checkIsGroup(t, rowsOf(n)[:800], false)
	}
}

func TestCloseRowsOfFewRows(t *testing.T) {
	for _, gens := range subsetsOf(rowsOf(3))[1:] {
		checkClose(t, gens)
	}
	for n := 3; n <= 8; n++ {
		some := someRows(n, map[int]int{3: 6, 4: 24, 5: 30, 6: 12, 7: 10, 8: 8}[n])
		for _, a := range some {
			checkClose(t, []string{a})
			checkClose(t, []string{a, a})
			for _, b := range some {
				checkClose(t, []string{a, b})
			}
		}
	}
}

func TestGroupOfOneRowIsItsPowers(t *testing.T) {
	for n := 3; n <= 8; n++ {
		for _, row := range someRows(n, 200) {
			order, _ := impl.OrderOf(row)
			var powers []string
			for k := range order {
				power, _ := impl.PowerOf(row, k)
				powers = append(powers, power)
			}
			slices.Sort(powers)
			if group := mustClose(t, []string{row}); !slices.Equal(group, powers) {
				t.Fatalf("CloseRows(%q) is %q", row, group)
			}
		}
	}
}

func TestGeneratedListsAreGroups(t *testing.T) {
	for _, k := range smallGroups() {
		gens := strings.Fields(k.rows)
		group := mustClose(t, gens)
		checkIsGroup(t, group, true)
		if !plainIsGroup(group) {
			t.Errorf("CloseRows(%q) is not a group", gens)
		}
		for _, row := range group {
			inverse, _ := impl.TurnRow(row)
			if _, found := slices.BinarySearch(group, inverse); !found {
				t.Fatalf("the group of %q has %q, but not its inverse", gens, row)
			}
		}
		for _, gen := range gens {
			if _, found := slices.BinarySearch(group, gen); !found {
				t.Errorf("the group of %q is %q", gens, brief(group))
			}
		}
	}
}

func TestIsGroupOnEveryShortList(t *testing.T) {
	for n, rows := range map[int][]string{3: rowsOf(3), 4: rowsOf(4)[:11], 5: strings.Fields("12345 12354 13452 14523 15234 21345 21354 23451 34512 45123 51234"), 8: strings.Fields("12345678 21345678 21436587 34127856 43218765 56781234 65872143 78563412 87654321")} {
		groups := 0
		for _, l := range subsetsOf(rows) {
			want := plainIsGroup(l)
			checkIsGroup(t, l, want)
			if want {
				groups++
			}
		}
		if groups < 4 {
			t.Errorf("of stage %d there are %d groups", n, groups)
		}
	}
}

func TestIncreasingListsThatAreNoGroups(t *testing.T) {
	checkIsGroup(t, nil, false)
	checkIsGroup(t, []string{}, false)
	for n := 3; n <= 8; n++ {
		checkIsGroup(t, rowsOf(n)[:1], true)
		checkIsGroup(t, rowsOf(n)[1:2], false)
	}
	for _, k := range smallGroups() {
		group := mustClose(t, strings.Fields(k.rows))
		if len(group) == 1 {
			continue
		}
		for at := 0; at < len(group); at += 1 + len(group)/10 {
			without := slices.Delete(slices.Clone(group), at, at+1)
			// A group of two rows without the other one is rounds alone.
			checkIsGroup(t, without, len(group) == 2 && at == 1)
		}
		for _, row := range someRows(len(group[0]), 10) {
			at, found := slices.BinarySearch(group, row)
			if !found {
				checkIsGroup(t, slices.Insert(slices.Clone(group), at, row), false)
				checkIsGroup(t, plainCoset(row, group), false)
			}
		}
	}
}

func TestListsThatAreNotIncreasing(t *testing.T) {
	lists := [][]string{}
	for _, k := range smallGroups() {
		group := mustClose(t, strings.Fields(k.rows))
		for at := 0; at < len(group); at += 1 + len(group)/5 {
			lists = append(lists, slices.Insert(slices.Clone(group), at, group[at]))
			if at > 0 {
				swapped := slices.Clone(group)
				swapped[at-1], swapped[at] = swapped[at], swapped[at-1]
				lists = append(lists, swapped)
			}
		}
		if reversed := slices.Clone(group); len(group) > 1 {
			slices.Reverse(reversed)
			lists = append(lists, reversed)
		}
	}
	for n := 3; n <= 8; n++ {
		lists = append(lists, slices.Repeat(rowsOf(n)[:1], 800), randomRows(n, 800))
	}
	for _, l := range lists {
		if is, ok := impl.IsGroup(l); is || ok {
			t.Errorf("IsGroup(%q) is %v, %v", brief(l), is, ok)
		}
		checkNoCoset(t, l, rounds8[:len(l[0])])
		checkNoCosets(t, l, l)
	}
}

func TestCosetsAreEquallyLargeAndEqualOrDisjoint(t *testing.T) {
	for _, k := range smallGroups() {
		group := mustClose(t, strings.Fields(k.rows))
		n := len(group[0])
		rows := append(someRows(n, 25), group[len(group)/2:min(len(group), len(group)/2+5)]...)
		var cosets [][]string
		for _, r := range rows {
			coset := checkCoset(t, group, r)
			if _, found := slices.BinarySearch(coset, r); !found || len(coset) != len(group) {
				t.Fatalf("CosetOf(%q, %q) is %q", brief(group), r, brief(coset))
			}
			cosets = append(cosets, coset)
		}
		for _, a := range cosets {
			for _, b := range cosets {
				common, _ := slices.BinarySearch(b, a[0])
				disjoint := !slices.ContainsFunc(a, func(row string) bool { _, found := slices.BinarySearch(b, row); return found })
				if !disjoint && (common != 0 || !slices.Equal(a, b)) {
					t.Fatalf("cosets of %q are %q and %q", brief(group), brief(a), brief(b))
				}
			}
		}
		checkCosets(t, group, rows)
	}
}

func TestCosetsPartitionTheStage(t *testing.T) {
	for _, k := range smallGroups() {
		group := mustClose(t, strings.Fields(k.rows))
		n := len(group[0])
		all := rowsOf(n)
		if n > 6 || len(all)/len(group) > 120 {
			continue
		}
		leasts, ok := impl.CosetsIn(group, all)
		if !ok || len(leasts)*len(group) != len(all) {
			t.Fatalf("the group %q has the cosets %q, %v", brief(group), brief(leasts), ok)
		}
		var together []string
		for _, least := range leasts {
			coset := checkCoset(t, group, least)
			if coset[0] != least {
				t.Errorf("the coset of %q begins with %q", least, coset[0])
			}
			together = append(together, coset...)
		}
		slices.Sort(together)
		if !slices.Equal(together, all) {
			t.Errorf("the cosets of %q have %d rows", brief(group), len(together))
		}
	}
}

func TestCosetsOfRoundsAndOfTheGroup(t *testing.T) {
	for _, k := range smallGroups() {
		group := mustClose(t, strings.Fields(k.rows))
		rounds := rounds8[:len(group[0])]
		for _, r := range []string{rounds, group[len(group)/2], group[len(group)-1]} {
			if coset, ok := impl.CosetOf(group, r); !ok || !slices.Equal(coset, group) {
				t.Errorf("CosetOf(%q, %q) is %q, %v", brief(group), r, brief(coset), ok)
			}
		}
		if leasts, ok := impl.CosetsIn(group, group); !ok || !slices.Equal(leasts, []string{rounds}) {
			t.Errorf("CosetsIn(%q) and the group is %q, %v", brief(group), brief(leasts), ok)
		}
	}
	// Of rounds alone every row is a coset.
	for n := 3; n <= 8; n++ {
		l := randomRows(n, 800)
		if leasts, ok := impl.CosetsIn([]string{rounds8[:n]}, l); !ok || !slices.Equal(leasts, slices.Compact(slices.Sorted(slices.Values(l)))) {
			t.Errorf("of rounds of stage %d there are %d cosets, %v", n, len(leasts), ok)
		}
	}
}

func TestCosetIsTheRowTimesTheGroup(t *testing.T) {
	// Here the group times the row is another list.
	for _, k := range [][3]string{
		{"123 213", "132", "132 312"}, {"123 213", "321", "231 321"}, {"1234 2143", "1342", "1342 3124"}, {"12345 13245", "23451", "23451 24351"},
	} {
		if coset, ok := impl.CosetOf(strings.Fields(k[0]), k[1]); !ok || !slices.Equal(coset, strings.Fields(k[2])) {
			t.Errorf("CosetOf(%s, %s) is %q, %v", k[0], k[1], coset, ok)
		}
	}
}

func TestCosetsInByTheWords(t *testing.T) {
	for _, k := range smallGroups() {
		group := mustClose(t, strings.Fields(k.rows))
		n := len(group[0])
		for _, length := range []int{0, 1, 2, 20} {
			l := randomRows(n, length)
			checkCosets(t, group, l)
			checkCosets(t, group, slices.Concat(l, l))
		}
		if n <= 6 || len(group) <= 60 {
			checkCosets(t, group, randomRows(n, 800))
		}
	}
	// The least rows of the cosets are not in the order of the rows.
	if leasts, ok := impl.CosetsIn([]string{"1234", "4231"}, []string{"2341", "3241"}); !ok || !slices.Equal(leasts, []string{"1243", "1342"}) {
		t.Errorf("CosetsIn is %q, %v", leasts, ok)
	}
}

func TestOrbitsKnown(t *testing.T) {
	for _, k := range []struct {
		gens   string
		n      int
		orbits [][]int
	}{
		{"", 3, [][]int{{1}, {2}, {3}}},
		{"", 8, [][]int{{1}, {2}, {3}, {4}, {5}, {6}, {7}, {8}}},
		{"1234", 4, [][]int{{1}, {2}, {3}, {4}}},
		{"321", 3, [][]int{{1, 3}, {2}}},
		{"231", 3, [][]int{{1, 2, 3}}},
		{"1324 1342", 4, [][]int{{1}, {2, 3, 4}}},
		{"3412", 4, [][]int{{1, 3}, {2, 4}}},
		{"3412 3412 1234", 4, [][]int{{1, 3}, {2, 4}}},
		{"14325 52341", 5, [][]int{{1, 5}, {2, 4}, {3}}},
		{"21345 13245 12435", 5, [][]int{{1, 2, 3, 4}, {5}}},
		{"654321 163452", 6, [][]int{{1, 2, 5, 6}, {3, 4}}},
		{"7234561 1243567", 7, [][]int{{1, 7}, {2}, {3, 4}, {5}, {6}}},
		{"78345612", 8, [][]int{{1, 7}, {2, 8}, {3}, {4}, {5}, {6}}},
		{"82345671 18345672", 8, [][]int{{1, 2, 8}, {3}, {4}, {5}, {6}, {7}}},
		{"21345678 13245678 12435678 12354678 12346578 12345768 12345687", 8, [][]int{{1, 2, 3, 4, 5, 6, 7, 8}}},
		{"23456781", 8, [][]int{{1, 2, 3, 4, 5, 6, 7, 8}}},
	} {
		checkOrbits(t, strings.Fields(k.gens), k.n, k.orbits)
	}
}

func TestOrbitsOfFewRows(t *testing.T) {
	for _, gens := range subsetsOf(rowsOf(3)) {
		checkOrbits(t, gens, 3, plainOrbits(gens, 3))
	}
	for n := 3; n <= 8; n++ {
		checkOrbits(t, nil, n, plainOrbits(nil, n))
		some := someRows(n, 50)
		for _, a := range some {
			checkOrbits(t, []string{a}, n, plainOrbits([]string{a}, n))
			for _, b := range some {
				checkOrbits(t, []string{a, b}, n, plainOrbits([]string{a, b}, n))
			}
		}
	}
}

func TestOrbitsAreThoseOfTheGroup(t *testing.T) {
	for _, k := range smallGroups() {
		gens := strings.Fields(k.rows)
		group := mustClose(t, gens)
		n := len(group[0])
		orbits, ok := impl.OrbitsOf(gens, n)
		checkOrbits(t, group, n, orbits)
		numbers := 0
		for _, orbit := range orbits {
			var images []int
			for _, row := range group {
				images = append(images, int(row[orbit[0]-1]-'0'))
			}
			slices.Sort(images)
			if images = slices.Compact(images); !ok || !slices.Equal(orbit, images) {
				t.Errorf("OrbitsOf(%q, %d) is %d, %v", gens, n, orbits, ok)
			}
			numbers += len(orbit)
		}
		if numbers != n {
			t.Errorf("the orbits %d have %d numbers", orbits, numbers)
		}
	}
}

func TestOrbitsOutOfStage(t *testing.T) {
	for _, n := range badStages() {
		for _, gens := range [][]string{nil, {}, {"123"}, {"12345678"}, {""}, {"12"}, {"21"}, {"1"}, {"123456789"}} {
			if orbits, ok := impl.OrbitsOf(gens, n); ok || len(orbits) != 0 {
				t.Errorf("OrbitsOf(%q, %d) is %d, %v", gens, n, orbits, ok)
			}
		}
	}
}

func TestRowsOfAnotherStage(t *testing.T) {
	for n := 3; n <= 8; n++ {
		for other := 3; other <= 8; other++ {
			if other == n {
				continue
			}
			for _, l := range [][]string{{rounds8[:n]}, randomRows(n, 5), randomRows(n, 800)} {
				if orbits, ok := impl.OrbitsOf(l, other); ok || len(orbits) != 0 {
					t.Errorf("OrbitsOf(%q, %d) is %d, %v", brief(l), other, orbits, ok)
				}
				for _, a := range someRows(other, 3) {
					if rows, ok := impl.LeftTimes(a, l); ok || len(rows) != 0 {
						t.Errorf("LeftTimes(%q, %q) is %q, %v", a, brief(l), brief(rows), ok)
					}
				}
				checkNoCosets(t, []string{rounds8[:other]}, l)
				checkNoCosets(t, []string{rounds8[:other], "21" + rounds8[2:other]}, l)
			}
			for _, a := range someRows(other, 3) {
				checkNoCoset(t, []string{rounds8[:n]}, a)
				checkNoCoset(t, []string{rounds8[:n], "21" + rounds8[2:n]}, a)
			}
		}
	}
}

func TestEmptyListsOfRows(t *testing.T) {
	for _, l := range [][]string{nil, {}, make([]string, 0, 5), rowsOf(3)[:0]} {
		sorted, ok1 := impl.SortRows(l)
		evens, ok2 := impl.EvenOnes(l)
		multiplied, ok3 := impl.LeftTimes("4321", l)
		leasts, ok4 := impl.CosetsIn([]string{"1234", "2143"}, l)
		if !impl.GoodRows(l) || !ok1 || !ok2 || !ok3 || !ok4 || len(sorted)+len(evens)+len(multiplied)+len(leasts) != 0 {
			t.Errorf("of no rows there are %q, %q, %q and %q", sorted, evens, multiplied, leasts)
		}
		checkIsGroup(t, l, false)
		if group, ok := impl.CloseRows(l); ok || len(group) != 0 {
			t.Errorf("CloseRows of no rows is %q, %v", group, ok)
		}
		for n := 3; n <= 8; n++ {
			checkNoCoset(t, l, rounds8[:n])
			checkNoCosets(t, l, []string{rounds8[:n]})
		}
		checkNoCosets(t, l, nil)
	}
}

func TestInvalidListsOfRowsGiveZeroValues(t *testing.T) {
	for _, l := range badRowLists() {
		if impl.GoodRows(l) {
			t.Errorf("GoodRows(%q) is true", brief(l))
		}
		for n := 3; n <= 8; n++ {
			a := rounds8[:n]
			if results := callListFunctions(l, a, n); !allZero(results) {
				t.Errorf("with %q, %q and %d the functions return %v", brief(l), a, n, results)
			}
			checkNoCoset(t, l, a)
			checkNoCosets(t, l, nil)
			checkNoCosets(t, l, []string{a})
			checkNoCosets(t, []string{a}, l)
		}
	}
}

func TestNoRowWhereOneIsAsked(t *testing.T) {
	for _, a := range badRows() {
		for n := 3; n <= 8; n++ {
			checkNoCoset(t, []string{rounds8[:n]}, a)
			checkNoCoset(t, []string{rounds8[:n], "21" + rounds8[2:n]}, a)
			for _, l := range [][]string{nil, {rounds8[:n]}, {"21" + rounds8[2:n], rounds8[:n]}} {
				if rows, ok := impl.LeftTimes(a, l); ok || len(rows) != 0 {
					t.Errorf("LeftTimes(%q, %q) is %q, %v", a, l, rows, ok)
				}
			}
		}
	}
}

func TestCosetsNeedAGroup(t *testing.T) {
	for _, l := range [][]string{{"213"}, {"123", "231"}, {"132", "213"}, {"123", "132", "213"}, {"123", "132", "213", "231", "312"}, {"213", "231", "312", "321"}} {
		for _, r := range rowsOf(3) {
			checkNoCoset(t, l, r)
			checkNoCosets(t, l, []string{r})
		}
		checkNoCosets(t, l, nil)
	}
	for n := 3; n <= 8; n++ {
		checkNoCoset(t, rowsOf(n)[1:2], rowsOf(n)[1])
		checkNoCosets(t, rowsOf(n)[1:2], rowsOf(n)[:1])
		checkNoCoset(t, rowsOf(n)[:5], rowsOf(n)[1])
		checkNoCosets(t, rowsOf(n)[:5], rowsOf(n)[:5])
	}
}

// callListFunctions calls the functions of chapter 6 that take no group, and returns what they return.
func callListFunctions(l []string, a string, n int) []any {
	good := impl.GoodRows(l)
	sorted, ok1 := impl.SortRows(l)
	evens, ok2 := impl.EvenOnes(l)
	multiplied, ok3 := impl.LeftTimes(a, l)
	group, ok4 := impl.CloseRows(l)
	is, ok5 := impl.IsGroup(l)
	orbits, ok6 := impl.OrbitsOf(l, n)
	return []any{good, sorted, ok1, evens, ok2, multiplied, ok3, group, ok4, is, ok5, orbits, ok6}
}

// callGroupFunctions calls every function of chapter 6 and returns what they return.
func callGroupFunctions(group []string, l []string, a string, n int) []any {
	coset, ok1 := impl.CosetOf(group, a)
	leasts, ok2 := impl.CosetsIn(group, l)
	return append(callListFunctions(l, a, n), coset, ok1, leasts, ok2)
}

func TestGroupResultsShareNoMemoryWithTheirArguments(t *testing.T) {
	for _, rows := range []string{"1234 2143", "1234", "1234 2143 3412 4321", "1234 1342 1423"} {
		group, l := strings.Fields(rows), strings.Fields(rows)
		results := callGroupFunctions(group, l, "1243", 4)
		want := callGroupFunctions(strings.Fields(rows), strings.Fields(rows), "1243", 4)
		overwrite(group)
		overwrite(l)
		if !reflect.DeepEqual(results, want) {
			t.Errorf("results become %v with their arguments", results)
		}
		group, l = strings.Fields(rows), strings.Fields(rows)
		for _, result := range callGroupFunctions(group, l, "1243", 4) {
			if list, ok := result.([]string); ok {
				overwrite(list)
			}
			if !slices.Equal(group, strings.Fields(rows)) || !slices.Equal(l, strings.Fields(rows)) {
				t.Fatalf("arguments become %q and %q with the results", group, l)
			}
		}
		if again := callGroupFunctions(group, l, "1243", 4); !reflect.DeepEqual(again, want) {
			t.Errorf("results are %v after others are overwritten", again)
		}
	}
}

func TestOrbitsShareNoMemory(t *testing.T) {
	gens := strings.Fields("21345678 12435678 12354678 12345687")
	want := plainOrbits(gens, 8)
	orbits, _ := impl.OrbitsOf(gens, 8)
	for i, orbit := range orbits {
		if !samePaths(orbits[i:], want[i:]) {
			t.Fatalf("orbits share memory: %d", orbits)
		}
		overwriteNumbers(orbit)
	}
	checkOrbits(t, gens, 8, want)
}

// withSpareRows copies a list to the beginning of a longer one, which is returned as well.
func withSpareRows(l []string) ([]string, []string) {
	back := append(slices.Clone(l), "kept", "1234", "")
	return back[:len(l)], back
}

func TestGroupFunctionsAcceptAllArguments(t *testing.T) {
	rows := append(badRows(), "123", "1234", "2143", "12345", "54321", "123456", "1234567", rounds8, strings.Repeat("1", 1<<20))
	stages := append(badStages(), 3, 4, 5, 6, 7, 8)
	lists := append(badRowLists(), make([]string, 1<<16), slices.Repeat([]string{strings.Repeat("12345678", 1<<10)}, 10))
	groups := [][]string{nil, {}, {""}, {"123"}, {"1234", "2143"}, {"2143", "1234"}, {"123", "1234"}, rowsOf(6), rowsOf(8)[:720], rowsOf(8)}
	for n := 3; n <= 8; n++ {
		lists = append(lists, listsOfRows(n)...)
	}
	for i, l := range lists {
		l, back := withSpareRows(l)
		group, groupBack := withSpareRows(groups[i%len(groups)])
		kept, groupKept := slices.Clone(back), slices.Clone(groupBack)
		a, n := rows[i%len(rows)], stages[i%len(stages)]
		first := callGroupFunctions(group, l, a, n)
		if again := callGroupFunctions(group, l, a, n); !reflect.DeepEqual(first, again) {
			t.Fatalf("calls with %q, %q, %q and %d return %v and then %v", brief(group), brief(l), a, n, first, again)
		}
		if !slices.Equal(back, kept) || !slices.Equal(groupBack, groupKept) {
			t.Fatalf("arguments are changed: %q and %q", brief(kept), brief(groupKept))
		}
	}
}

func FuzzGroupFunctions(f *testing.F) {
	f.Add("1234 2134", "3124 1324 2134", "1324", 4)
	f.Add("123 231 312", "321 123 321", "213", 3)
	f.Add("12345678 87654321", "23456781 12345687", "12345678", 8)
	f.Add("2143 1234", "1234 123", "", 9)
	f.Add("", "", "x", math.MinInt)
	f.Fuzz(func(t *testing.T, group string, list string, a string, n int) {
		g, l := strings.Fields(group), strings.Fields(list)
		results := callGroupFunctions(g, l, a, n)
		if !impl.GoodRows(l) {
			if !allZero(results[:13]) || !allZero(results[15:]) {
				t.Fatalf("with %q, %q, %q and %d the functions return %v", g, l, a, n, results)
			}
			return
		}
		if len(l) > 0 {
			checkClose(t, l)
			checkOrbits(t, l, len(l[0]), plainOrbits(l, len(l[0])))
		}
		if is, _ := impl.IsGroup(g); is {
			if !plainIsGroup(g) {
				t.Fatalf("IsGroup(%q) is true", g)
			}
			if impl.GoodRow(a) && len(a) == len(g[0]) {
				checkCoset(t, g, a)
			}
			if len(l) == 0 || len(l[0]) == len(g[0]) {
				checkCosets(t, g, l)
			}
		} else if !allZero(results[13:]) {
			t.Fatalf("with %q, %q, %q and %d the functions return %v", g, l, a, n, results)
		}
	})
}
