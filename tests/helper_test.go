package tests

import "strings"

// rowsOf lists the rows of a stage in bytewise order, made without the program.
func rowsOf(n int) []string {
	var rows []string
	var extend func(row string)
	extend = func(row string) {
		if len(row) == n {
			rows = append(rows, row)
			return
		}
		for _, bell := range "12345678"[:n] {
			if !strings.ContainsRune(row, bell) {
				extend(row + string(bell))
			}
		}
	}
	extend("")
	return rows
}

// someRows picks at most about most of the rows of a stage, the first and the last among them.
func someRows(n int, most int) []string {
	all := rowsOf(n)
	step := max(1, len(all)/most)
	var rows []string
	for i := 0; i < len(all); i += step {
		rows = append(rows, all[i])
	}
	return append(rows, all[len(all)-1])
}

// badRows are strings that are no rows.
func badRows() []string {
	return []string{
		"", "1", "12", "21", "123456789", "987654321",
		"1224", "113", "333", "11111111",
		"124", "1235", "234", "023", "0123", "12345679", "12345670",
		"12a", "1 3", " 123", "123 ", "123\n", "12-", "-12", "+12", "1.3",
		"\x00\x00\x00", "123\x00", "12\x004", "\xff\xfe\xfd", "\xb1\xb2\xb3", "1\u0662\u0663", "\uff11\uff12\uff13", "12\u00b3",
		strings.Repeat("1", 1000), strings.Repeat("12345678", 100),
	}
}
