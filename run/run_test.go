package run_test

import (
	"fmt"
	"slices"
	"strconv"
	"strings"
	"testing"

	"wanderwire/run"
)

// The numbers as the document has them, so that a change of one of them shows.
const (
	// long: so many bytes may a text have.
	long = 3000
	// full: so many packets may be on their way.
	full = 40
	// most: so many bytes may one write.
	most   = 60
	window = 20
	ranges = 12
)

// letters, as many as one may write, no two in a row the same.
const letters = "abcdefghijklmnopqrstuvwxyzABCDEFGHIJKLMNOPQRSTUVWXYZ01234567"

// row: a line, and its answer.
type row struct{ line, answer string }

// rowsOf texts of the form LINE = ANSWER.
func rowsOf(t *testing.T, texts ...string) []row {
	t.Helper()
	var l []row
	for _, s := range texts {
		i := strings.LastIndex(s, " = ")
		if i < 0 {
			t.Fatalf("%q has no answer", s)
		}
		l = append(l, row{s[:i], s[i+3:]})
	}
	return l
}

// joined: all lines, and all answers, byte 10 behind each.
func joined(rows []row) (text, answers string) {
	for _, r := range rows {
		text += r.line + "\n"
		answers += r.answer + "\n"
	}
	return text, answers
}

// wantRun tells the first line that is answered otherwise.
func wantRun(t *testing.T, text, want string) {
	t.Helper()
	got := run.Run(text)
	if got == want {
		return
	}
	lines, gots, wants := strings.Split(text, "\n"), strings.Split(got, "\n"), strings.Split(want, "\n")
	for i := range wants {
		if i < len(gots) && i < len(lines) && gots[i] != wants[i] {
			t.Errorf("line %d, %.80q: %.80q; want %.80q", i, lines[i], gots[i], wants[i])
			return
		}
	}
	t.Errorf("Run(%.80q) = %.80q, of %d bytes; want %.80q, of %d", text, got, len(got), want, len(want))
}

// wantRows, whether byte 10 is behind the last line or not.
func wantRows(t *testing.T, rows []row) {
	t.Helper()
	text, answers := joined(rows)
	wantRun(t, text, answers)
	if rows[len(rows)-1].line != "" {
		wantRun(t, strings.TrimSuffix(text, "\n"), answers)
	}
}

func play(t *testing.T, texts ...string) {
	t.Helper()
	wantRows(t, rowsOf(t, texts...))
}

// both: rows of 0 and 1, and the same with 1 and 0.
func both(t *testing.T, play func(one, other string)) {
	t.Helper()
	play("0", "1")
	play("1", "0")
}

func TestZ1Talk(t *testing.T) {
	both(t, func(one, other string) {
		play(t,
			"count = 0",
			"write "+one+" hello = ok",
			"count = 0",
			"read "+other+" 60 = -",
			"send "+one+" = ok",
			"count = 1",
			"read "+other+" 60 = -",
			"come 0 = ok",
			"count = 0",
			"read "+one+" 60 = -",
			"read "+other+" 60 = hello",
			"read "+other+" 60 = -",
			"write "+other+" and,you = ok",
			"send "+other+" = ok",
			"come 0 = ok",
			"read "+one+" 60 = and,you",
			"read "+one+" 60 = -",
			"write "+one+" too = ok",
			"send "+one+" = ok",
			"come 0 = ok",
			"read "+other+" 60 = too",
			"count = 0",
		)
	})
}

func TestZ1TalkBothAtOnce(t *testing.T) {
	play(t,
		"write 0 abc = ok", "write 1 xyz = ok", "send 0 = ok", "send 1 = ok", "count = 2",
		"come 1 = ok", "read 1 60 = -", "read 0 60 = xyz", "come 0 = ok", "read 1 60 = abc", "count = 0",
	)
}

// TestZ1Window: it is 20, of both, and goes on when what came is read, and that is told.
func TestZ1Window(t *testing.T) {
	both(t, func(one, other string) {
		round := []string{"send " + other + " = ok", "come 0 = ok", "send " + one + " = ok", "come 0 = ok"}
		rows := []string{"write " + one + " " + letters + " = ok", "send " + one + " = ok", "come 0 = ok"}
		for i := range most / window {
			rows = append(rows, round...)
			rows = append(rows, "read "+other+" 60 = "+letters[i*window:(i+1)*window], "read "+other+" 60 = -")
		}
		rows = append(rows, round...)
		play(t, append(rows, "read "+other+" 60 = -", "write "+one+" x = ErrFull")...)
	})
}

func TestZ1Write(t *testing.T) {
	both(t, func(one, other string) {
		for n := 1; n <= most; n++ {
			// All at once, and byte by byte.
			all := rowsOf(t, "write "+one+" "+letters[:n]+" = ok")
			var single []row
			for i := range n {
				single = append(single, row{"write " + one + " " + letters[i:i+1], "ok"})
			}
			rest := []string{"write " + one + " " + strings.Repeat("x", most-n+1) + " = ErrFull", "send " + one + " = ok", "come 0 = ok", "read " + one + " 60 = -", "read " + other + " 60 = " + letters[:min(n, window)]}
			wantRows(t, append(all, rowsOf(t, rest...)...))
			wantRows(t, append(single, rowsOf(t, rest...)...))
		}
		// Each has its own room.
		play(t,
			"write "+one+" "+letters+" = ok", "write "+one+" x = ErrFull", "write "+other+" "+letters+" = ok", "write "+other+" x = ErrFull",
			"write "+one+" "+letters+" = ErrFull",
		)
		play(t, "write "+one+" "+letters+"x = ErrFull", "write "+one+" "+letters+" = ok")
		wantRun(t, "write "+one+" "+strings.Repeat("x", long-8), "ErrFull\n")
	})
}

// TestZ1WriteWord: any bytes but 32, and 10, which ends the line.
func TestZ1WriteWord(t *testing.T) {
	var words []string
	for b := range 256 {
		if b != 10 && b != 32 {
			c := string([]byte{byte(b)})
			words = append(words, c, c+c, "a"+c, c+"a", "a"+c+"b")
		}
	}
	words = append(words, "0", "01", "-1", "9999", "10000", "write", "count", "-", "ok", "bad", "ErrRange", "too", "é€😀", "\xff\xfe", "\xc3", "\u00a0", "\u2028", "\x85\x0b\x0c")
	for _, w := range words {
		both(t, func(one, other string) {
			wantRows(t, []row{
				{"write " + one + " " + w, "ok"}, {"send " + one, "ok"}, {"come 0", "ok"},
				{"read " + other + " 60", w}, {"read " + other + " 60", "-"},
			})
		})
	}
}

func TestZ1Send(t *testing.T) {
	both(t, func(one, other string) {
		var rows []string
		for i := range full {
			rows = append(rows, "count = "+strconv.Itoa(i), "send "+one+" = ok")
		}
		rows = append(rows, "send "+one+" = ErrFull", "count = 40", "send "+other+" = ErrFull", "count = 40")
		// It has room for one more, just when one came or was lost.
		rows = append(rows, "come 0 = ok", "count = 39", "send "+other+" = ok", "send "+other+" = ErrFull", "count = 40")
		rows = append(rows, "lose 39 = ok", "count = 39", "send "+one+" = ok", "send "+one+" = ErrFull", "count = 40")
		play(t, rows...)
	})
}

// TestZ1SendNoneMade: where there is no room no packet is made: the next one has the number that it would have had, so that no gap more is seen.
func TestZ1SendNoneMade(t *testing.T) {
	rows := slices.Repeat([]string{"send 0 = ok"}, full)
	rows = append(rows, slices.Repeat([]string{"send 0 = ErrFull"}, 2)...)
	// Twelve ranges are there: 0, 2 .. 20, and 22 to 39; of 40 there is no thirteenth one if it lies just behind 39.
	for i := range ranges {
		rows = append(rows, "come "+strconv.Itoa(i)+" = ok")
	}
	rows = append(rows, slices.Repeat([]string{"come 11 = ok"}, full-23)...)
	rows = append(rows, "count = 11", "send 0 = ok", "come 11 = ok", "count = 11")
	play(t, rows...)
}

// TestZ1Come: whichever one comes, it is that one.
func TestZ1Come(t *testing.T) {
	// The i-th packet has i + 1 bytes.
	var sent []string
	for i := range window {
		sent = append(sent, "write 0 "+letters[i:i+1]+" = ok", "send 0 = ok")
	}
	for i := range window {
		place := strconv.Itoa(i)
		play(t, append(slices.Clone(sent), "come "+place+" = ok", "count = 19", "read 1 60 = "+letters[:i+1], "read 1 60 = -", "come 19 = ErrRange", "count = 19")...)
		play(t, append(slices.Clone(sent), "lose "+place+" = ok", "count = 19", "read 1 60 = -", "lose 19 = ErrRange", "count = 19")...)
		play(t, append(slices.Clone(sent), "twice "+place+" = ok", "count = 21", "read 1 60 = -", "come 20 = ok", "read 1 60 = "+letters[:i+1], "count = 20")...)
	}
}

// TestZ1ComeTurnedRound: in order it is read, whatever the order is in which they come.
func TestZ1ComeTurnedRound(t *testing.T) {
	play(t,
		"write 0 abc = ok", "send 0 = ok", "write 0 def = ok", "send 0 = ok", "write 0 ghi = ok", "send 0 = ok", "count = 3",
		"come 1 = ok", "read 1 4 = abcd", "come 0 = ok", "read 1 60 = ef", "read 1 60 = -", "come 0 = ok", "read 1 60 = ghi", "count = 0",
	)
	play(t,
		"write 1 abc = ok", "send 1 = ok", "write 1 def = ok", "send 1 = ok",
		"come 1 = ok", "come 0 = ok", "read 0 1 = a", "read 0 2 = bc", "read 0 0 = -", "read 0 3 = def", "read 0 3 = -",
	)
}

func TestZ1Lose(t *testing.T) {
	both(t, func(one, other string) {
		play(t,
			"write "+one+" hello = ok", "send "+one+" = ok", "count = 1", "lose 0 = ok", "count = 0", "come 0 = ErrRange", "read "+other+" 60 = -",
			"send "+one+" = ok", "lose 0 = ok", "read "+other+" 60 = -",
			"send "+one+" = ok", "count = 1", "come 0 = ok", "read "+other+" 60 = hello",
		)
		// What was told to be there does not come again; what was lost does.
		play(t,
			"write "+one+" abc = ok", "send "+one+" = ok", "come 0 = ok", "send "+other+" = ok", "come 0 = ok",
			"write "+one+" def = ok", "send "+one+" = ok", "lose 0 = ok", "read "+other+" 60 = abc",
			"send "+one+" = ok", "come 0 = ok", "read "+other+" 60 = def", "read "+other+" 60 = -",
		)
	})
}

func TestZ1Twice(t *testing.T) {
	both(t, func(one, other string) {
		play(t,
			"write "+one+" hello = ok", "send "+one+" = ok", "count = 1", "twice 0 = ok", "count = 2", "twice 1 = ok", "count = 3",
			"come 1 = ok", "read "+other+" 60 = hello", "come 0 = ok", "read "+other+" 60 = -", "come 0 = ok", "read "+other+" 60 = -", "count = 0", "twice 0 = ErrRange",
		)
		rows := []string{"send " + one + " = ok"}
		for i := range full - 1 {
			rows = append(rows, "twice "+strconv.Itoa(i)+" = ok", "count = "+strconv.Itoa(i+2))
		}
		rows = append(rows, "twice 0 = ErrFull", "twice 39 = ErrFull", "count = 40", "twice 40 = ErrRange", "send "+one+" = ErrFull", "come 5 = ok", "twice 38 = ok", "twice 38 = ErrFull", "count = 40")
		play(t, rows...)
	})
}

// TestZ1NotOnItsWay: which is told by its place, from 0 on.
func TestZ1NotOnItsWay(t *testing.T) {
	for _, word := range []string{"come", "lose", "twice"} {
		for _, sent := range []int{0, 1, 2, 39, 40} {
			rows := slices.Repeat([]string{"send 0 = ok"}, sent)
			for _, place := range []int{sent, sent + 1, 40, 41, 256, 257, 1000, 9999} {
				rows = append(rows, word+" "+strconv.Itoa(place)+" = ErrRange", "count = "+strconv.Itoa(sent))
			}
			play(t, rows...)
		}
	}
}

// TestZ1ComeRefused: what the other one does not take is gone all the same (chapter 17); the error is told by its name.
func TestZ1ComeRefused(t *testing.T) {
	both(t, func(one, other string) {
		rows := slices.Repeat([]string{"send " + one + " = ok"}, 2*ranges+1)
		// Each second one, so that there is a range more each time.
		for i := range ranges {
			rows = append(rows, "come "+strconv.Itoa(i)+" = ok")
		}
		play(t, append(rows, "count = 13", "come 12 = ErrFull", "count = 12", "come 0 = ok", "count = 11")...)
		// The first packet is late by so much that its number is read as another one, which then is told to be there, and was never made.
		rows = []string{"write " + one + " a = ok", "send " + one + " = ok"}
		rows = append(rows, slices.Repeat([]string{"send " + one + " = ok", "come 1 = ok"}, 127)...)
		play(t, append(rows, "come 0 = ok", "send "+other+" = ok", "count = 1", "come 0 = ErrState", "count = 0", "read "+other+" 60 = a")...)
	})
}

func TestZ1Read(t *testing.T) {
	both(t, func(one, other string) {
		come := []string{"write " + one + " " + letters + " = ok", "send " + one + " = ok", "come 0 = ok"}
		for n := 1; n <= window; n++ {
			rows := slices.Clone(come)
			for at := 0; at < window; at += n {
				rows = append(rows, "read "+other+" "+strconv.Itoa(n)+" = "+letters[at:min(at+n, window)], "read "+other+" 0 = -", "read "+one+" 5 = -")
			}
			play(t, append(rows, "read "+other+" "+strconv.Itoa(n)+" = -", "count = 0")...)
		}
		for _, n := range []string{"20", "21", "60", "61", "256", "1000", "9999"} {
			play(t, append(slices.Clone(come), "read "+other+" "+n+" = "+letters[:window], "read "+other+" "+n+" = -")...)
		}
	})
	play(t, "read 0 0 = -", "read 1 0 = -", "read 0 1 = -", "read 1 9999 = -")
}

func TestZ1NoOne(t *testing.T) {
	for _, who := range []string{"2", "3", "9", "10", "40", "256", "257", "1000", "9999"} {
		play(t,
			"write "+who+" a = ErrRange", "send "+who+" = ErrRange", "read "+who+" 0 = ErrRange", "read "+who+" 5 = ErrRange", "count = 0",
			// ErrRange ahead of ErrFull.
			"write "+who+" "+letters+"x = ErrRange",
		)
		play(t, append(slices.Repeat([]string{"send 1 = ok"}, full), "send "+who+" = ErrRange", "count = 40")...)
	}
}

// wantMany rows, in texts that are not too long; they tell nothing of each other.
func wantMany(t *testing.T, rows []row) {
	t.Helper()
	for some := range slices.Chunk(rows, 100) {
		wantRows(t, some)
	}
}

func TestZ1Varint(t *testing.T) {
	play(t,
		"varint 0 = 0", "varint 1 = 1", "varint 9 = 9", "varint 10 = 10", "varint 63 = 63", "varint 64 = 64 64", "varint 65 = 64 65", "varint 255 = 64 255",
		"varint 256 = 65 0", "varint 999 = 67 231", "varint 1000 = 67 232", "varint 8946 = 98 242", "varint 9999 = 103 15", "varint 10000 = bad", "varint 16384 = bad",
	)
	var rows []row
	for n := range 10000 {
		told := strconv.Itoa(n)
		if n >= 64 {
			told = fmt.Sprint(64+n/256, n%256)
		}
		rows = append(rows, row{fmt.Sprint("varint ", n), told})
	}
	wantMany(t, rows)
}

func TestZ1Need(t *testing.T) {
	play(t,
		"need 1 0 = 1", "need 128 0 = 1", "need 129 0 = 2", "need 9999 0 = 2", "need 9999 9998 = 1", "need 9999 9871 = 1", "need 9999 9870 = 2", "need 9092 1464 = 2",
		"need 0 0 = ErrRange", "need 5 5 = ErrRange", "need 5 6 = ErrRange", "need 0 9999 = ErrRange", "need 9999 9999 = ErrRange", "need 9998 9999 = ErrRange",
		"need 10000 0 = bad", "need 0 10000 = bad", "need 1 -1 = bad",
	)
	var rows []row
	for n := 0; n < 10000; n += 37 {
		for _, known := range []int{0, 1, 9, n - 129, n - 128, n - 127, n - 1, n, n + 1, 2 * n, 9999} {
			if known < 0 || known > 9999 {
				continue
			}
			told := "2"
			switch {
			case known >= n:
				told = "ErrRange"
			case n-known <= 128:
				told = "1"
			}
			rows = append(rows, row{fmt.Sprint("need ", n, known), told})
		}
	}
	wantMany(t, rows)
}

func TestZ1TooLong(t *testing.T) {
	for _, n := range []int{long + 1, long + 2, 2 * long, 65536, 65536 + 5, 1 << 20} {
		for _, s := range []string{"x", "\n", " ", "count\n", "send 0\n", "\x00", "\xff"} {
			wantRun(t, strings.Repeat(s, n)[:n], "too long\n")
		}
	}
	wantRun(t, strings.Repeat("count\n", long/6), strings.Repeat("0\n", long/6))
	wantRun(t, strings.Repeat("count\n", long/6)+"x", "too long\n")
	wantRun(t, strings.Repeat("count\n", long/6)+"\n", "too long\n")
	wantRun(t, strings.Repeat("\n", long), strings.Repeat("bad\n", long))
	wantRun(t, strings.Repeat("\n", long-1), strings.Repeat("bad\n", long-1))
	wantRun(t, strings.Repeat("\n", long+1), "too long\n")
	wantRun(t, strings.Repeat("x", long), "bad\n")
	wantRun(t, strings.Repeat(" ", long), "bad\n")
	wantRun(t, strings.Repeat("x", long-1)+"\n", "bad\n")
	wantRun(t, strings.Repeat("x", long)+"\n", "too long\n")
	wantRun(t, "write 0 "+strings.Repeat("x", long-7), "too long\n")
	// By bytes, not by letters.
	wantRun(t, strings.Repeat("€", long/3), "bad\n")
	wantRun(t, strings.Repeat("€", long/3)+"x", "too long\n")
	wantRun(t, strings.Repeat("€", long/3+1), "too long\n")
}

func TestZ1Lines(t *testing.T) {
	for _, c := range []struct{ text, answers string }{
		{"", ""}, {"\n", "bad\n"}, {"\n\n", "bad\nbad\n"}, {" ", "bad\n"}, {" \n", "bad\n"}, {"\n ", "bad\nbad\n"},
		{"count", "0\n"}, {"count\n", "0\n"}, {"count\n\n", "0\nbad\n"}, {"count\n\n\n", "0\nbad\nbad\n"}, {"\ncount", "bad\n0\n"},
		{"send 0\ncount", "ok\n1\n"}, {"send 0\n\ncount\n", "ok\nbad\n1\n"}, {"send 0\n\n\ncount", "ok\nbad\nbad\n1\n"},
		{"count\r\ncount\n", "bad\n0\n"}, {"count\n\rcount", "0\nbad\n"}, {"count\rcount", "bad\n"}, {"count\x00\n", "bad\n"}, {"count\n\x00", "0\nbad\n"},
		{"count\x0bcount\x0ccount\u0085count\u2028count", "bad\n"},
	} {
		wantRun(t, c.text, c.answers)
	}
}

// badNumbers: none of them is an N.
var badNumbers = []string{
	"00", "01", "000", "0001", "00000", "00001", "+0", "+1", "-0", "-1", "-9999", "10000", "10001", "12345", "99999", "65536", "1000000",
	"4294967296", "4294967297", "9223372036854775807", "9223372036854775808", "18446744073709551616", "18446744073709551617", strings.Repeat("9", 100), strings.Repeat("0", 100),
	"x", "0x", "x0", "1x", "0x1", "0b1", "0o1", "1e1", "1.0", "1.", ".1", "1,0", "1_0", "_1", "a", "O", "l", "-", "+", "--1", "1-", "\t1", "1\t", "1\r", "\x00", "1\x00", "\x001", "\xff", "١", "１", "²", "\u00a01", "inf", "nil",
}

// right lines of each word of the table, each of them taken or refused by a call if asked of a fresh desk.
var right = []row{
	{"write 0 a", "ok"}, {"write 2 a", "ErrRange"}, {"send 1", "ok"}, {"send 2", "ErrRange"}, {"come 0", "ErrRange"}, {"lose 0", "ErrRange"}, {"twice 0", "ErrRange"},
	{"read 0 5", "-"}, {"read 2 5", "ErrRange"}, {"count", "0"}, {"varint 64", "64 64"}, {"need 9 3", "1"}, {"need 3 9", "ErrRange"},
}

// wrongOf a right line: its words, but one of them, or a blank, is wrong. Those of which an error could be told show that bad is told ahead of it.
func wrongOf(line string) []string {
	words := strings.Split(line, " ")
	l := []string{
		" " + line, line + " ", "  " + line, line + "  ", line + " a", line + " 0", line + " 0 0", line + " " + line, "\t" + line, line + " \t", line + "\r ", line + " \x00",
		strings.ReplaceAll(line, " ", "  ") + " ", strings.ToUpper(words[0]) + line[len(words[0]):], strings.ToUpper(line[:1]) + line[1:], words[0] + "s" + line[len(words[0]):], words[0][1:] + line[len(words[0]):],
		"\x00" + line, "-" + line, "/" + line, "\ufeff" + line, "\u00a0" + line, words[0] + "\x00" + line[len(words[0]):], words[0] + ":" + line[len(words[0]):],
	}
	if words[0] != "write" {
		// Behind a WORD these would be of it.
		l = append(l, line+"\t", line+"\r", line+"\x00", line+",", line+"\u00a0")
	}
	for i := range len(words) - 1 {
		at := i + 1
		l = append(l,
			strings.Join(words[:at], " "), strings.Join(words[:at], " ")+" ",
			strings.Join(slices.Delete(slices.Clone(words), at, at+1), " "),
			strings.Join(slices.Delete(slices.Clone(words), 0, at), " "),
			strings.Join(words[:at], " ")+"  "+strings.Join(words[at:], " "),
			strings.Join(words[:at], " ")+"\t"+strings.Join(words[at:], " "),
			strings.Join(words[:at], " ")+"\u00a0"+strings.Join(words[at:], " "),
			strings.Join(words[:at], " ")+","+strings.Join(words[at:], " "),
			strings.Join(words[:at], "")+strings.Join(words[at:], " "),
		)
		if words[0] == "write" && at == 2 {
			continue
		}
		for _, n := range badNumbers {
			all := slices.Clone(words)
			all[at] = n
			l = append(l, strings.Join(all, " "))
		}
	}
	return l
}

// otherLines: none of the table's.
var otherLines = []string{
	"", " ", "  ", "\t", "\r", "\x00", "\xff", "0", "1 2", "a", "hello", "ok", "bad", "-", "too long", "ErrRange", "OK", "quit", "exit", "help", "#", "# count", "// count", "count;count", "count,",
	"new 20", "New 20", "make 0", "take 0 a", "give 0", "issue 1", "retire 0", "move 1", "crash 0", "sync", "fail 0", "acked 0", "ready 0", "long 5", "put 5", "get 5", "cut 300 1", "whole 44 1 290", "all 5", "wait 0",
	"write0 a", "sendd 0", "sen 0", "s 0", "counts", "coun", "c", "varint\x00 5", "ｃount", "cоunt", "read0 5", "need\t5 3",
}

func TestZ1Bad(t *testing.T) {
	for _, r := range right {
		wantRows(t, []row{r})
		for _, line := range wrongOf(r.line) {
			wantRows(t, []row{{line, "bad"}, {"count", "0"}})
		}
	}
	for _, line := range otherLines {
		wantRows(t, []row{{line, "bad"}, {"count", "0"}})
	}
}

// TestZ1BadAhead: of a line of which an error could be told, bad is.
func TestZ1BadAhead(t *testing.T) {
	rows := slices.Repeat([]string{"send 0 = ok"}, full)
	rows = append(rows, "write 1 "+letters+" = ok")
	rows = append(rows,
		"write 2 = bad", "write 2  = bad", "write 2 a b = bad", "write 02 a = bad", "write 1 x = ErrFull", "write 1 x x = bad", "write 1 x  = bad", "write 1  x = bad", "write 01 x = bad",
		"send 0 = ErrFull", "send 00 = bad", "send 0 0 = bad", "send 2 2 = bad", "send 10000 = bad", "send 9999 = ErrRange",
		"come 40 = ErrRange", "come 040 = bad", "come 40 1 = bad", "come 10000 = bad", "lose 40 = ErrRange", "lose 10000 = bad", "twice 0 = ErrFull", "twice 40 = ErrRange", "twice 00 = bad", "twice 0 0 = bad", "twice 10000 = bad",
		"read 2 5 = ErrRange", "read 2 x = bad", "read 2 05 = bad", "read 2 10000 = bad", "read x 2 = bad", "read 2 = bad", "read 2 5 5 = bad",
		"need 5 5 = ErrRange", "need 5 05 = bad", "need 5 10000 = bad", "need 10000 5 = bad", "need 5 5 5 = bad", "count = 40",
	)
	play(t, rows...)
}

// TestZ1Digits: N of each length.
func TestZ1Digits(t *testing.T) {
	for _, n := range []string{"0", "1", "9", "10", "99", "100", "999", "1000", "9999"} {
		play(t, "read 0 "+n+" = -", "come "+n+" = ErrRange", "need 0 "+n+" = ErrRange")
		play(t, "read 0 0"+n+" = bad", "come 0"+n+" = bad", "need 0 0"+n+" = bad", "varint 0"+n+" = bad")
	}
	for _, n := range []string{"10000", "10001", "99999", "12345", "00000", "100000"} {
		play(t, "read 0 "+n+" = bad", "come "+n+" = bad", "need 0 "+n+" = bad", "need "+n+" 0 = bad", "varint "+n+" = bad", "send "+n+" = bad", "write "+n+" a = bad")
	}
}

// session in which all words are, and much is going on.
func session(t *testing.T) []row {
	return rowsOf(t,
		"write 0 "+letters[:30]+" = ok", "write 1 xyz = ok", "send 0 = ok", "send 1 = ok", "twice 0 = ok", "count = 3",
		"come 2 = ok", "read 1 7 = abcdefg", "come 0 = ok", "read 1 6 = hijklm", "send 1 = ok", "lose 0 = ok", "read 0 9 = -",
		"come 0 = ok", "read 0 2 = xy", "send 0 = ok", "count = 1", "come 0 = ok", "read 1 60 = nopqrstuvwxyzABCD", "write 0 , = ok", "send 0 = ok", "twice 0 = ok", "come 1 = ok",
		"read 1 60 = ,", "come 0 = ok", "read 1 60 = -", "read 0 60 = z", "varint 64 = 64 64", "need 9 3 = 1", "count = 0",
		"write 0 "+strings.Repeat("x", 30)+" = ErrFull", "write 0 "+strings.Repeat("x", 29)+" = ok", "write 0 x = ErrFull",
	)
}

// TestZ1NothingDone by a line that is refused, wherever it stands.
func TestZ1NothingDone(t *testing.T) {
	refused := rowsOf(t,
		"write 2 a = ErrRange", "send 2 = ErrRange", "read 2 5 = ErrRange", "come 3 = ErrRange", "lose 3 = ErrRange", "twice 3 = ErrRange", "need 5 5 = ErrRange", "write 0 "+letters+"x = ErrFull", "write 1 "+letters+"x = ErrFull",
	)
	for _, line := range append(wrongOf("write 0 a"), otherLines...) {
		refused = append(refused, row{line, "bad"})
	}
	for _, r := range right {
		for _, line := range wrongOf(r.line)[:12] {
			refused = append(refused, row{line, "bad"})
		}
	}
	rows := session(t)
	for _, no := range refused {
		all := []row{no}
		for _, r := range rows {
			all = append(all, r, no)
		}
		text, _ := joined(all)
		if len(text) > long {
			// Only numbers of very many digits are so long.
			if len(no.line) < 100 {
				t.Errorf("%q is too long for the session", no.line)
			}
			continue
		}
		wantRows(t, all)
	}
}

// TestZ1TellingDoesNothing: nor by a line that only tells.
func TestZ1TellingDoesNothing(t *testing.T) {
	for _, told := range rowsOf(t, "varint 300 = 65 44", "need 300 9 = 2", "read 0 0 = -", "read 1 0 = -") {
		var all []row
		for _, r := range session(t) {
			all = append(all, told, r)
		}
		wantRows(t, all)
	}
}

// TestZ1TwoKnowNothingOfOneAnother, one after the other, and at the same time.
func TestZ1TwoKnowNothingOfOneAnother(t *testing.T) {
	a, wantA := joined(session(t))
	b, wantB := "send 0\ncount\nread 0 60\nread 1 60\nwrite 0 "+letters+"\n", "ok\n1\n-\n-\nok\n"
	for range 3 {
		wantRun(t, a, wantA)
		wantRun(t, b, wantB)
		wantRun(t, strings.Repeat("send 1\n", full), strings.Repeat("ok\n", full))
		wantRun(t, "count", "0\n")
	}
	done := make(chan string)
	for i := range 20 {
		go func() { done <- run.Run([]string{a, b}[i%2]) }()
	}
	got := map[string]int{}
	for range 20 {
		got[<-done]++
	}
	if got[wantA] != 10 || got[wantB] != 10 {
		t.Errorf("at the same time: %d and %d are as they should; want 10 each", got[wantA], got[wantB])
	}
}
