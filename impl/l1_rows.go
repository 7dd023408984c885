package impl

import "bytes"

const MinStage = 3
const MaxStage = 8
const MaxRows = 800

const maxPower = 1000

// digits holds the digits of a row and zeros beyond its stage, so that two arrays are equal exactly if the rows are.
type digits [MaxStage]byte

func goodStage(n int) bool {
	return n >= MinStage && n <= MaxStage
}

func digitsOf(r string) (digits, bool) {
	var d digits
	if !GoodRow(r) {
		return d, false
	}
	copy(d[:], r)
	return d, true
}

func roundsDigits(n int) digits {
	var d digits
	for i := range n {
		d[i] = byte('1' + i)
	}
	return d
}

func (d digits) stage() int {
	n := 0
	for n < MaxStage && d[n] != 0 {
		n++
	}
	return n
}

func (d digits) row() string {
	return string(d[:d.stage()])
}

func (d digits) times(e digits) digits {
	var product digits
	for i := range d.stage() {
		product[i] = d[e[i]-'1']
	}
	return product
}

func (d digits) inverse() digits {
	var turned digits
	for i := range d.stage() {
		turned[d[i]-'1'] = byte('1' + i)
	}
	return turned
}

func (d digits) isHome(bell int) bool {
	return int(d[bell-1]-'0') == bell
}

func (d digits) placeOf(bell int) int {
	return bytes.IndexByte(d[:], byte('0'+bell)) + 1
}

// homeBells returns the bells that are in their own places.
func (d digits) homeBells() []int {
	var bells []int
	for bell := 1; bell <= d.stage(); bell++ {
		if d.isHome(bell) {
			bells = append(bells, bell)
		}
	}
	return bells
}

func (d digits) order() int {
	rounds := roundsDigits(d.stage())
	k := 1
	for power := d; power != rounds; power = power.times(d) {
		k++
	}
	return k
}

func (d digits) cycleFrom(start int) []int {
	cycle := []int{start}
	for bell := int(d[start-1] - '0'); bell != start; bell = int(d[bell-1] - '0') {
		cycle = append(cycle, bell)
	}
	return cycle
}

// smallerAfter counts the digits behind place i (from 0) that are less than the digit there.
func (d digits) smallerAfter(i int) int {
	count := 0
	for _, digit := range d[i+1 : d.stage()] {
		if digit < d[i] {
			count++
		}
	}
	return count
}

// rank counts the rows of the stage that come before d.
func (d digits) rank() int {
	rank := 0
	n := d.stage()
	for i := range n {
		rank += d.smallerAfter(i) * factorial(n-1-i)
	}
	return rank
}

func factorial(n int) int {
	product := 1
	for i := range n {
		product *= i + 1
	}
	return product
}

func GoodRow(r string) bool {
	if !goodStage(len(r)) {
		return false
	}
	var seen [MaxStage]bool
	for i := range len(r) {
		bell := int(r[i]) - '1'
		if bell < 0 || bell >= len(r) || seen[bell] {
			return false
		}
		seen[bell] = true
	}
	return true
}

func RoundsOf(n int) (string, bool) {
	if !goodStage(n) {
		return "", false
	}
	return roundsDigits(n).row(), true
}

func Times(a string, b string) (string, bool) {
	d, okA := digitsOf(a)
	e, okB := digitsOf(b)
	if !okA || !okB || len(a) != len(b) {
		return "", false
	}
	return d.times(e).row(), true
}

func TurnRow(a string) (string, bool) {
	d, ok := digitsOf(a)
	if !ok {
		return "", false
	}
	return d.inverse().row(), true
}

func PowerOf(a string, k int) (string, bool) {
	d, ok := digitsOf(a)
	if !ok || k < -maxPower || k > maxPower {
		return "", false
	}
	// Powers repeat after the order, so a negative power is also one of the first few positive ones.
	order := d.order()
	power := roundsDigits(len(a))
	for range (k%order + order) % order {
		power = power.times(d)
	}
	return power.row(), true
}

func OrderOf(a string) (int, bool) {
	d, ok := digitsOf(a)
	if !ok {
		return 0, false
	}
	return d.order(), true
}

func IsEven(a string) (bool, bool) {
	d, ok := digitsOf(a)
	if !ok {
		return false, false
	}
	inversions := 0
	for i := range len(a) {
		inversions += d.smallerAfter(i)
	}
	return inversions%2 == 0, true
}

func CyclesOf(a string) ([][]int, bool) {
	d, ok := digitsOf(a)
	if !ok {
		return nil, false
	}
	var seen [MaxStage + 1]bool
	var cycles [][]int
	for start := 1; start <= len(a); start++ {
		if seen[start] {
			continue
		}
		cycle := d.cycleFrom(start)
		for _, bell := range cycle {
			seen[bell] = true
		}
		if len(cycle) > 1 {
			cycles = append(cycles, cycle)
		}
	}
	return cycles, true
}

func RowOf(n int, k int) (string, bool) {
	if !goodStage(n) || k < 0 || k >= factorial(n) {
		return "", false
	}
	var d digits
	left := roundsDigits(n)
	for i := range n {
		// Each choice of the digit here begins a block of this many successive rows.
		block := factorial(n - 1 - i)
		pick := k / block
		k %= block
		d[i] = left[pick]
		copy(left[pick:], left[pick+1:])
	}
	return d.row(), true
}

func PlaceOfRow(r string) (int, bool) {
	d, ok := digitsOf(r)
	if !ok {
		return 0, false
	}
	return d.rank(), true
}
