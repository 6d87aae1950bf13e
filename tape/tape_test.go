package tape_test

import (
	"bytes"
	"encoding/binary"
	"math"
	"math/big"
	"reflect"
	"slices"
	"testing"

	"foretell/api"
	"foretell/tape"
)

// sumBound: sums are below it.
const sumBound = 2147483629

// list of these numbers.
func list(l ...int) []int { return l }

// lists, one behind the other.
func lists(l ...[]int) [][]int { return l }

// of these bytes a tape, of which so many are synced.
func of(synced int, l ...byte) api.Tape { return api.Tape{Data: l, Synced: synced} }

// zeros: a tape of so many of them.
func zeros(many, synced int) api.Tape { return api.Tape{Data: make([]byte, many), Synced: synced} }

// shown: a tape as it is told where something is wrong; of a great one its size alone.
func shown(x api.Tape) any {
	if len(x.Data) > 100 {
		return struct{ bytes, synced int }{len(x.Data), x.Synced}
	}
	return x
}

// same tapes?
func same(a, b api.Tape) bool { return bytes.Equal(a.Data, b.Data) && a.Synced == b.Synced }

// sameRecords?
func sameRecords(a, b [][]int) bool { return slices.EqualFunc(a, b, slices.Equal) }

// secondSum: by the document's words, in numbers without bounds, and the modulus at the end alone.
func secondSum(l []byte) int {
	sum := big.NewInt(1)
	for _, b := range l {
		sum.Mul(sum, big.NewInt(257))
		sum.Add(sum, big.NewInt(int64(b)))
	}
	return int(sum.Mod(sum, big.NewInt(sumBound)).Int64())
}

// shortSum: as secondSum, for long lists, with the modulus at each step.
func shortSum(l []byte) int {
	sum := uint64(1)
	for _, b := range l {
		sum = sum*257 + uint64(b)
		sum -= sum / sumBound * sumBound
	}
	return int(sum)
}

// words: each of the numbers as four bytes, whatever they are.
func words(l ...int) []byte {
	var b []byte
	for _, n := range l {
		b = binary.BigEndian.AppendUint32(b, uint32(n))
	}
	return b
}

// sealed: bytes, and behind them their sum.
func sealed(l []byte) []byte { return append(slices.Clone(l), words(shortSum(l))...) }

// record of these numbers, by the document's words.
func record(l ...int) []byte { return sealed(append(words(len(l)), words(l...)...)) }

// joined bytes.
func joined(l ...[]byte) []byte { return bytes.Join(l, nil) }

// secondRead: by the document's words; whether a record is one that Write makes is asked of all that it may be made of.
func secondRead(data []byte) (records [][]int, read int) {
	for {
		rest := data[read:]
		if len(rest) < 8 {
			return records, read
		}
		many := int(binary.BigEndian.Uint32(rest))
		if many > 4000 || len(rest) < 4*many+8 {
			return records, read
		}
		l := make([]int, many)
		for i := range l {
			l[i] = int(binary.BigEndian.Uint32(rest[4+4*i:]))
			if l[i] >= 1<<31 {
				return records, read
			}
		}
		if !bytes.HasPrefix(rest, record(l...)) {
			return records, read
		}
		records, read = append(records, l), read+4*many+8
	}
}

// writes: the tape behind it is this one.
func writes(t *testing.T, x api.Tape, l []int) api.Tape {
	t.Helper()
	want := api.Tape{Data: append(slices.Clone(x.Data), record(l...)...), Synced: x.Synced}
	y, e := tape.Write(x, l)
	if !same(y, want) || e != api.OK {
		t.Fatalf("Write(%v, %d numbers): %v, %v, want %v", shown(x), len(l), shown(y), e, shown(want))
	}
	return y
}

// written: an empty tape, and then these records.
func written(t *testing.T, l ...[]int) api.Tape {
	t.Helper()
	var x api.Tape
	for _, numbers := range l {
		x = writes(t, x, numbers)
	}
	return x
}

// notWritten: for this reason.
func notWritten(t *testing.T, x api.Tape, l []int, want api.Errno) {
	t.Helper()
	if y, e := tape.Write(x, l); len(y.Data) != 0 || y.Synced != 0 || e != want {
		t.Errorf("Write(%v, %d numbers): %v, %v, want %v", shown(x), len(l), shown(y), e, want)
	}
}

// reads just these records; and Repair leaves their bytes.
func reads(t *testing.T, x api.Tape, want [][]int, size int) {
	t.Helper()
	l, n, e := tape.Read(x)
	if !sameRecords(l, want) || n != size || e != api.OK {
		t.Errorf("Read(%v): %d records, %d bytes, %v, want %d and %d", shown(x), len(l), n, e, len(want), size)
	}
	left := api.Tape{Data: x.Data[:size], Synced: min(x.Synced, size)}
	if y, e := tape.Repair(x); !same(y, left) || e != api.OK {
		t.Errorf("Repair(%v): %v, %v, want %v", shown(x), shown(y), e, shown(left))
	}
}

// syncs: all bytes.
func syncs(t *testing.T, x api.Tape) api.Tape {
	t.Helper()
	y, e := tape.Sync(x)
	if !same(y, api.Tape{Data: x.Data, Synced: len(x.Data)}) || e != api.OK {
		t.Fatalf("Sync(%v): %v, %v", shown(x), shown(y), e)
	}
	return y
}

// crashes: so many of the first bytes are left.
func crashes(t *testing.T, x api.Tape, keep, left int) api.Tape {
	t.Helper()
	y, e := tape.Crash(x, keep)
	if !same(y, api.Tape{Data: x.Data[:left], Synced: left}) || e != api.OK {
		t.Fatalf("Crash(%v, %d): %v, %v, want %d bytes", shown(x), keep, shown(y), e, left)
	}
	return y
}

// P11.1: a tape that may not be is refused by all calls, ahead of all else.
func TestTapesThatMayNotBe(t *testing.T) {
	for _, x := range []api.Tape{
		of(1), of(-1), of(math.MaxInt), of(math.MinInt),
		of(-1, 1, 2, 3), of(4, 1, 2, 3), of(math.MaxInt, 1, 2, 3), of(math.MinInt, 1, 2, 3),
		zeros(api.MaxBytes+1, 0), zeros(api.MaxBytes+1, api.MaxBytes+1), zeros(api.MaxBytes+1, -1),
		zeros(api.MaxBytes, -1), zeros(api.MaxBytes, api.MaxBytes+1), zeros(2*api.MaxBytes, 7),
	} {
		notWritten(t, x, nil, api.ErrState)
		notWritten(t, x, list(1, 2), api.ErrState)
		notWritten(t, x, list(-1), api.ErrState)
		notWritten(t, x, make([]int, api.MaxRecord+1), api.ErrState)
		if y, e := tape.Sync(x); len(y.Data) != 0 || y.Synced != 0 || e != api.ErrState {
			t.Errorf("Sync(%v): %v, %v", shown(x), shown(y), e)
		}
		for _, keep := range []int{0, 1, -1, math.MaxInt, math.MinInt} {
			if y, e := tape.Crash(x, keep); len(y.Data) != 0 || y.Synced != 0 || e != api.ErrState {
				t.Errorf("Crash(%v, %d): %v, %v", shown(x), keep, shown(y), e)
			}
		}
		if l, n, e := tape.Read(x); len(l) != 0 || n != 0 || e != api.ErrState {
			t.Errorf("Read(%v): %d records, %d, %v", shown(x), len(l), n, e)
		}
		if y, e := tape.Repair(x); len(y.Data) != 0 || y.Synced != 0 || e != api.ErrState {
			t.Errorf("Repair(%v): %v, %v", shown(x), shown(y), e)
		}
	}
}

// P11.1, P11.4: tapes at the edges of what may be; Sync, as all calls, takes them.
func TestTapesThatMayBe(t *testing.T) {
	for _, x := range []api.Tape{
		{}, of(0), of(0, 7), of(1, 7), of(3, 1, 2, 3),
		zeros(api.MaxBytes-8, 0), zeros(api.MaxBytes-8, api.MaxBytes-8),
	} {
		writes(t, x, nil)
	}
	for _, x := range []api.Tape{
		{}, of(0), of(0, 7), of(1, 7), of(0, 1, 2, 3), of(3, 1, 2, 3),
		zeros(api.MaxBytes, 0), zeros(api.MaxBytes, 1), zeros(api.MaxBytes, api.MaxBytes),
	} {
		syncs(t, x)
		crashes(t, x, 0, x.Synced)
		reads(t, x, nil, 0)
	}
}

// P11.2: written out.
func TestSums(t *testing.T) {
	for _, c := range []struct {
		bytes []byte
		want  int
	}{
		{nil, 1},
		{[]byte{}, 1},
		{[]byte{5}, 262},
		{[]byte{0}, 257},
		{[]byte{255}, 512},
		{[]byte{0, 0}, 66049},
		{[]byte{1, 2}, 66308},
		{[]byte{2, 1}, 66564},
		{[]byte{0, 0, 0}, 16974593},
		{[]byte{0, 0, 0, 0}, 67503143},
		{[]byte{255, 255, 255, 255}, 117965385},
	} {
		if n := tape.Sum(c.bytes); n != c.want {
			t.Errorf("Sum(%v): %d, want %d", c.bytes, n, c.want)
		}
	}
}

// P11.2: against the second reading.
func TestDrawnSums(t *testing.T) {
	d := die(11)
	for range 3000 {
		l := d.bytes(d.below(60))
		if n := tape.Sum(l); n != secondSum(l) {
			t.Fatalf("Sum(%v): %d, want %d", l, n, secondSum(l))
		}
	}
	for range 5 {
		l := d.bytes(2000 + d.below(2000))
		if n := tape.Sum(l); n != secondSum(l) || n != shortSum(l) {
			t.Fatalf("Sum of %d bytes: %d, want %d", len(l), n, secondSum(l))
		}
	}
	for _, b := range []byte{0, 1, 255} { // bytes of more than any tape has
		l := bytes.Repeat([]byte{b}, 3*api.MaxBytes)
		if n := tape.Sum(l); n != shortSum(l) {
			t.Errorf("Sum of %d bytes %d: %d, want %d", len(l), b, n, shortSum(l))
		}
	}
}

// P11.2: sums at the edges of the modulus: they are from 0 on, and below it.
func TestSumsAtTheEdge(t *testing.T) {
	for _, want := range []int{0, 1, sumBound - 1} {
		l := bytesOfSum(t, []byte{7, 0, 7}, want)
		if n := tape.Sum(l); n != want || secondSum(l) != want {
			t.Errorf("Sum(%v): %d, want %d", l, n, want)
		}
	}
}

// bytesOfSum: bytes that begin with these and have this sum.
func bytesOfSum(t *testing.T, begin []byte, want int) []byte {
	t.Helper()
	// Four bytes more reach a span of sums that has no gap; with a few others ahead of them it lies elsewhere.
	for ahead := range 1 << 16 {
		l := append(slices.Clone(begin), byte(ahead>>8), byte(ahead))
		low := shortSum(append(slices.Clone(l), 0, 0, 0, 0))
		rest := (want - low + sumBound) % sumBound
		if tail, ok := digits(rest); ok {
			return append(l, tail...)
		}
	}
	t.Fatalf("no bytes were found with the sum %d", want)
	return nil
}

// digits of a number to the base 257, four of them, if all are bytes.
func digits(n int) ([]byte, bool) {
	l := make([]byte, 4)
	for i := 3; i >= 0; i-- {
		if n%257 > 255 {
			return nil, false
		}
		l[i] = byte(n % 257)
		n /= 257
	}
	return l, n == 0
}

// P11.3: bytes written out.
func TestRecords(t *testing.T) {
	for _, c := range []struct {
		numbers []int
		want    []byte
	}{
		{nil, []byte{0, 0, 0, 0, 4, 6, 4, 0x27}},
		{list(), []byte{0, 0, 0, 0, 4, 6, 4, 0x27}},
		{list(5), joined([]byte{0, 0, 0, 1, 0, 0, 0, 5}, words(secondSum([]byte{0, 0, 0, 1, 0, 0, 0, 5})))},
		{list(0x01020304, api.MaxNumber), joined([]byte{0, 0, 0, 2, 1, 2, 3, 4, 127, 255, 255, 255}, words(secondSum([]byte{0, 0, 0, 2, 1, 2, 3, 4, 127, 255, 255, 255})))},
	} {
		y, e := tape.Write(api.Tape{}, c.numbers)
		if !bytes.Equal(y.Data, c.want) || y.Synced != 0 || e != api.OK {
			t.Errorf("Write({}, %v): %v, %v, want %v", c.numbers, y, e, c.want)
		}
		if y, e := tape.Write(of(2, 9, 8, 7), c.numbers); !same(y, of(2, joined([]byte{9, 8, 7}, c.want)...)) || e != api.OK {
			t.Errorf("Write({9 8 7}, %v): %v, %v, want %v behind these", c.numbers, y, e, c.want)
		}
	}
}

// P11.3: what Write refuses, and in which order.
func TestWriteRefuses(t *testing.T) {
	full := zeros(api.MaxBytes, 0)
	for _, wrong := range []int{-1, -2, api.MaxNumber + 1, 1 << 32, 1<<32 + 5, math.MaxInt, math.MinInt} {
		for _, l := range lists(list(wrong), list(wrong, 1, 2), list(1, wrong, 2), list(1, 2, wrong)) {
			notWritten(t, api.Tape{}, l, api.ErrRange)
			notWritten(t, of(1, 1, 2), l, api.ErrRange)
			notWritten(t, full, l, api.ErrRange) // ahead of ErrFull
		}
		greatest := make([]int, api.MaxRecord)
		greatest[api.MaxRecord-1] = wrong
		notWritten(t, api.Tape{}, greatest, api.ErrRange)
		notWritten(t, api.Tape{}, append(greatest, 0), api.ErrSize) // ahead of ErrRange
		notWritten(t, full, append(greatest, 0), api.ErrSize)
	}
	for _, right := range []int{0, 1, 255, 256, 65536, 1 << 24, api.MaxNumber - 1, api.MaxNumber} {
		reads(t, written(t, list(right), list(1, right), list(right, 1)), lists(list(right), list(1, right), list(right, 1)), 44)
	}
	for _, many := range []int{api.MaxRecord + 1, api.MaxRecord + 2, 2 * api.MaxRecord, 1 << 20} {
		notWritten(t, api.Tape{}, make([]int, many), api.ErrSize)
		notWritten(t, full, make([]int, many), api.ErrSize)
	}
	for _, many := range []int{api.MaxRecord - 1, api.MaxRecord} {
		l := counted(many)
		reads(t, written(t, l, l), lists(l, l), 8*many+16)
	}
}

// P11.3: a tape is full to the byte.
func TestFull(t *testing.T) {
	for _, many := range []int{0, 1, 2, 100, api.MaxRecord} {
		size := 4*many + 8
		for _, synced := range []int{0, 1, api.MaxBytes - size} {
			x := writes(t, zeros(api.MaxBytes-size, synced), make([]int, many))
			if len(x.Data) != api.MaxBytes {
				t.Errorf("%d bytes", len(x.Data))
			}
			notWritten(t, x, nil, api.ErrFull)
			notWritten(t, x, make([]int, many), api.ErrFull)
		}
		for more := 1; more <= size; more++ {
			if many < 100 || more < 3 || more == size {
				notWritten(t, zeros(api.MaxBytes-size+more, 0), make([]int, many), api.ErrFull)
			}
		}
	}
}

// counted numbers: 0, 1, and so on.
func counted(many int) []int {
	l := make([]int, many)
	for i := range l {
		l[i] = i
	}
	return l
}

// P11.5: each keep at each tape of a few bytes, and keeps that are far too great.
func TestCrash(t *testing.T) {
	all := []byte{9, 0, 7, 255, 5}
	for size := range len(all) + 1 {
		for synced := range size + 1 {
			x := api.Tape{Data: all[:size], Synced: synced}
			for keep := range 9 {
				crashes(t, x, keep, min(size, synced+keep))
			}
			for _, keep := range []int{api.MaxBytes, api.MaxNumber, 1 << 32, math.MaxInt - 5, math.MaxInt - 1, math.MaxInt} {
				crashes(t, x, keep, size)
			}
			for _, keep := range []int{-1, -2, -api.MaxBytes, math.MinInt + 5, math.MinInt} {
				if y, e := tape.Crash(x, keep); len(y.Data) != 0 || y.Synced != 0 || e != api.ErrRange {
					t.Errorf("Crash(%v, %d): %v, %v", x, keep, y, e)
				}
			}
		}
	}
	x := zeros(api.MaxBytes, 1000)
	crashes(t, x, 0, 1000)
	crashes(t, x, 24, 1024)
	crashes(t, x, api.MaxBytes-1001, api.MaxBytes-1)
	crashes(t, x, api.MaxBytes-1000, api.MaxBytes)
	crashes(t, x, math.MaxInt, api.MaxBytes)
}

// P11.6, P11.7: a tape that is cut at each place, and synced at each place.
func TestEveryCut(t *testing.T) {
	all := lists(list(1, 2), nil, list(api.MaxNumber), list(0), list(7, 8, 9))
	x := written(t, all...)
	ends := []int{0, 16, 24, 36, 48, 68}
	for cut := range len(x.Data) + 1 {
		whole := 0
		for whole < len(all) && ends[whole+1] <= cut {
			whole++
		}
		for synced := range cut + 1 {
			reads(t, api.Tape{Data: x.Data[:cut], Synced: synced}, all[:whole], ends[whole])
		}
	}
}

// P11.6: a tape with any bit of it turned round: all records ahead of that one are read, and neither it nor what is behind it.
func TestEveryBitOff(t *testing.T) {
	all := lists(list(1, 2), nil, list(api.MaxNumber), list(0), list(7, 8, 9))
	x := written(t, all...)
	ends := []int{0, 16, 24, 36, 48, 68}
	for bit := range 8 * len(x.Data) {
		data := slices.Clone(x.Data)
		data[bit/8] ^= 1 << (bit % 8)
		whole := 0
		for ends[whole+1] <= bit/8 {
			whole++
		}
		reads(t, api.Tape{Data: data, Synced: len(data)}, all[:whole], ends[whole])
	}
}

// P11.6: bytes that look like a record, with the right sum, but that Write does not make.
func TestNoRecords(t *testing.T) {
	ahead := record(3, 4)
	for name, torn := range map[string][]byte{
		"a number too great":        sealed(words(1, api.MaxNumber+1)),
		"a last number too great":   sealed(words(3, 1, 2, 1<<31)),
		"the greatest four bytes":   sealed(words(1, 1<<32-1)),
		"too many numbers":          sealed(append(words(api.MaxRecord+1), words(counted(api.MaxRecord+1)...)...)),
		"far too many numbers":      sealed(words(api.MaxNumber, 1, 2)),
		"more than any":             sealed(words(1<<32-1, 1, 2)),
		"so many that 4 times wrap": sealed(words(1<<30, 1)),
		"minus two numbers":         sealed(words(1<<32 - 2)),
		"a sum beside the modulus":  joined(words(1, 5), words(shortSum(words(1, 5))+sumBound)),
		"a sum of 31 bits":          joined(words(0), words(shortSum(words(0))|1<<31)),
		"one number too few":        sealed(words(2, 1)),
		"one number too many":       sealed(words(1, 1, 2)),
		"the sum of the numbers":    joined(words(2, 1, 2), words(shortSum(words(1, 2)))),
		"the sum of all ahead":      joined(words(1, 5), words(shortSum(joined(ahead, words(1, 5))))),
		"no sum":                    words(0),
		"a sum of three bytes":      record(7)[:11],
		"the lowest byte first":     {1, 0, 0, 0, 5, 0, 0, 0, 0, 0, 0, 0},
		"zeros":                     make([]byte, 64),
		"one byte":                  {0},
		"three bytes":               {0, 0, 0},
	} {
		more := record(5)
		if name == "one number too few" || name == "a sum of three bytes" || name == "no sum" || len(torn) < 4 {
			more = nil // what is behind it would belong to it
		}
		for _, data := range [][]byte{torn, joined(torn, more)} {
			if l, n, e := tape.Read(api.Tape{Data: data}); len(l) != 0 || n != 0 || e != api.OK {
				t.Errorf("%s: Read: %v, %d, %v", name, l, n, e)
			}
			x := api.Tape{Data: joined(ahead, data), Synced: len(ahead) + len(data)}
			reads(t, x, lists(list(3, 4)), len(ahead))
		}
	}
}

// P11.6: records whose numbers have the sum's greatest and least values are whole.
func TestRecordsWithSumsAtTheEdge(t *testing.T) {
	for _, want := range []int{0, 1, sumBound - 1} {
		l := bytesOfSum(t, append(words(3), 1, 2, 3, 4, 0, 7), want) // two bytes more, and four
		numbers := list(int(binary.BigEndian.Uint32(l[4:])), int(binary.BigEndian.Uint32(l[8:])), int(binary.BigEndian.Uint32(l[12:])))
		if numbers[2] > api.MaxNumber {
			t.Fatalf("%v are no numbers of a record", numbers)
		}
		x := written(t, numbers, list(1))
		if int(binary.BigEndian.Uint32(x.Data[16:])) != want {
			t.Errorf("the sum of %v should be %d", numbers, want)
		}
		reads(t, x, lists(numbers, list(1)), 32)
	}
}

// P11.6: tapes as great as they may be.
func TestGreatest(t *testing.T) {
	empty := api.Tape{Data: bytes.Repeat(record(), api.MaxBytes/8), Synced: api.MaxBytes}
	reads(t, empty, make([][]int, api.MaxBytes/8), api.MaxBytes)
	notWritten(t, empty, nil, api.ErrFull)
	empty.Data[api.MaxBytes-1]++
	reads(t, empty, make([][]int, api.MaxBytes/8-1), api.MaxBytes-8)
	empty.Data[0]++
	reads(t, empty, nil, 0)

	var x api.Tape
	var all [][]int
	for range 65 { // of 16008 bytes each
		l := counted(api.MaxRecord)
		x, all = writes(t, x, l), append(all, l)
	}
	reads(t, x, all, 65*16008)
	notWritten(t, x, counted(api.MaxRecord), api.ErrFull)
	last := (api.MaxBytes-len(x.Data))/4 - 2
	x, all = writes(t, x, counted(last)), append(all, counted(last))
	reads(t, x, all, api.MaxBytes)
	reads(t, api.Tape{Data: x.Data[:api.MaxBytes-1], Synced: api.MaxBytes - 1}, all[:65], 65*16008)
}

// P11.6: every tape of a few words that may make records.
func TestEveryShortTape(t *testing.T) {
	sums := [][]byte{words(shortSum(words(0))), words(shortSum(words(1, 0))), words(shortSum(words(1, 1))), words(shortSum(words(2, 0, 1)))}
	pieces := append([][]byte{words(0), words(1), words(2), {0}}, sums...)
	whole := 0
	for code := range 8 * 8 * 8 * 8 * 8 * 8 {
		var data []byte
		for rest := code; rest > 0; rest /= 8 {
			data = append(data, pieces[rest%8]...)
		}
		want, size := secondRead(data)
		whole += len(want)
		reads(t, api.Tape{Data: data, Synced: code % (len(data) + 1)}, want, size)
		if t.Failed() {
			return
		}
	}
	if whole < 1000 {
		t.Errorf("only %d records were read", whole)
	}
}

// die: numbers that look drawn, the same each time.
type die uint64

func (d *die) below(most int) int {
	*d = *d*6364136223846793005 + 1442695040888963407
	return int(uint64(*d>>33) % uint64(most))
}

// bytes, so many.
func (d *die) bytes(many int) []byte {
	l := make([]byte, many)
	for i := range l {
		l[i] = byte(d.below(256))
	}
	return l
}

// numbers of a record.
func (d *die) numbers() []int {
	l := make([]int, d.below(5))
	for i := range l {
		l[i] = d.below(1 << (1 + d.below(31)))
	}
	return l
}

// tape of records, now and then with something torn in it.
func (d *die) tape() api.Tape {
	var data []byte
	for range d.below(5) {
		data = append(data, record(d.numbers()...)...)
		if d.below(6) == 0 {
			data = append(data, d.bytes(d.below(6))...)
		}
	}
	data = data[:len(data)-d.below(len(data)/4+1)]
	if len(data) > 0 && d.below(4) == 0 {
		data[d.below(len(data))]++
	}
	return api.Tape{Data: data, Synced: d.below(len(data) + 1)}
}

// All faces against the second reading, at drawn tapes.
func TestDrawn(t *testing.T) {
	d := die(110)
	for range 20000 {
		x := d.tape()
		want, size := secondRead(x.Data)
		reads(t, x, want, size)
		writes(t, x, d.numbers())
		syncs(t, x)
		keep := d.below(30)
		crashes(t, x, keep, min(len(x.Data), x.Synced+keep))
		if t.Failed() {
			return
		}
	}
}

// What comes of it: behind a crash all records that were synced are read, and more can be written.
func TestLives(t *testing.T) {
	d := die(111)
	lost := 0
	for range 300 {
		var x api.Tape
		var all [][]int
		safe := 0
		for range 40 {
			switch d.below(8) {
			case 0:
				x = syncs(t, x)
				safe = len(all)
			case 1:
				keep := d.below(40)
				x = crashes(t, x, keep, min(len(x.Data), x.Synced+keep))
				l, _, e := tape.Read(x)
				if e != api.OK || len(l) < safe || len(l) > len(all) || !sameRecords(l, all[:len(l)]) {
					t.Fatalf("behind a crash %v are read of %v, of which %d were safe, %v", l, all, safe, e)
				}
				lost += len(all) - len(l)
				all, safe = all[:len(l)], len(l)
				x, e = tape.Repair(x)
				if e != api.OK || x.Synced != len(x.Data) {
					t.Fatalf("Repair: %v, %v", x, e)
				}
			default:
				l := d.numbers()
				x, all = writes(t, x, l), append(all, l)
			}
			reads(t, x, all, len(x.Data))
		}
	}
	if lost < 100 {
		t.Errorf("only %d records were lost", lost)
	}
}

// What is written behind something torn is not read until that is cut off.
func TestBehindWhatIsTorn(t *testing.T) {
	x := written(t, list(1), list(2, 3))
	torn := crashes(t, x, 20, 20)
	more := writes(t, torn, list(4))
	reads(t, more, lists(list(1)), 12)
	mended, e := tape.Repair(torn)
	if e != api.OK || !same(mended, api.Tape{Data: x.Data[:12], Synced: 12}) {
		t.Fatalf("Repair: %v, %v", mended, e)
	}
	reads(t, writes(t, mended, list(4)), lists(list(1), list(4)), 24)
}

// whole list, copied up to its cap.
func whole[T any](l []T) []T { return append([]T(nil), l[:cap(l)]...) }

// roomy: the same list, with spare room that is not empty.
func roomy[T any](l []T, spare ...T) []T {
	return append(slices.Clone(l), spare...)[:len(l)]
}

// Lists that are handed in stay as they are, their spare room too.
func TestListsHandedInStay(t *testing.T) {
	d := die(112)
	for range 3000 {
		x := d.tape()
		x.Data = roomy(x.Data, d.bytes(200)...)
		l := roomy(d.numbers(), 7, -7, 77)
		if d.below(4) == 0 {
			l = append(l, -1) // it is refused
		}
		data, numbers := whole(x.Data), whole(l)
		tape.Sum(x.Data)
		tape.Write(x, l)
		tape.Sync(x)
		tape.Crash(x, d.below(30))
		tape.Crash(x, -1)
		tape.Read(x)
		tape.Repair(x)
		tape.Write(api.Tape{Data: x.Data, Synced: -1}, l)
		tape.Repair(api.Tape{Data: x.Data, Synced: len(x.Data) + 1})
		if !bytes.Equal(whole(x.Data), data) || !slices.Equal(whole(l), numbers) {
			t.Fatalf("%v and %v were handed in, %v and %v are left", data, numbers, whole(x.Data), whole(l))
		}
	}
}

// spoilt: a list is filled up to its cap.
func spoilt[T any](l []T, with T) {
	for i := range l[:cap(l)] {
		l[:cap(l)][i] = with
	}
}

// Answers are new memory, spare room too: what is written there shows in no argument and in no other answer.
func TestAnswersAreNew(t *testing.T) {
	d := die(113)
	for range 3000 {
		x := d.tape()
		x.Data = roomy(x.Data, d.bytes(200)...)
		l := roomy(d.numbers(), 7, -7, 77)
		data, numbers := whole(x.Data), whole(l)
		keep := d.below(30)
		for _, face := range []func() api.Tape{
			func() api.Tape { y, _ := tape.Write(x, l); return y },
			func() api.Tape { y, _ := tape.Sync(x); return y },
			func() api.Tape { y, _ := tape.Crash(x, keep); return y },
			func() api.Tape { y, _ := tape.Repair(x); return y },
		} {
			first, other := face(), face()
			want := slices.Clone(other.Data)
			spoilt(first.Data, 99)
			if !bytes.Equal(other.Data, want) {
				t.Fatalf("behind a change of an answer %v is left of %v", other.Data, want)
			}
			if !bytes.Equal(whole(x.Data), data) || !slices.Equal(whole(l), numbers) {
				t.Fatalf("behind a change of an answer %v and %v are left", whole(x.Data), whole(l))
			}
		}
	}
}

// No two lists of what Read answers share memory, with one another or with another answer.
func TestRecordsAreNew(t *testing.T) {
	d := die(114)
	for range 2000 {
		x := d.tape()
		data := whole(x.Data)
		first, _, _ := tape.Read(x)
		other, _, _ := tape.Read(x)
		want, _ := secondRead(x.Data)
		for i := range first {
			spoilt(first[i], -7)
			if !sameRecords(first[i+1:], want[i+1:]) {
				t.Fatalf("behind a change of record %d, %v are left of %v", i, first[i+1:], want[i+1:])
			}
		}
		spoilt(first, list(-7))
		if !sameRecords(other, want) || !bytes.Equal(whole(x.Data), data) {
			t.Fatalf("behind a change of an answer %v are left of %v", other, want)
		}
	}
}

// What a call answers hangs on its arguments alone: the same again, whether an empty list is nil or not.
func TestTheSameAgain(t *testing.T) {
	d := die(115)
	for range 500 {
		x, l := d.tape(), d.numbers()
		for range 2 {
			a, e := tape.Write(x, l)
			b, f := tape.Write(api.Tape{Data: slices.Clone(x.Data), Synced: x.Synced}, slices.Clone(l))
			if !reflect.DeepEqual(a, b) || e != f {
				t.Fatalf("Write: %v, %v, and then %v, %v", a, e, b, f)
			}
		}
	}
	a, e := tape.Write(api.Tape{}, nil)
	b, f := tape.Write(api.Tape{Data: []byte{}}, []int{})
	if !same(a, b) || e != f {
		t.Errorf("Write: %v, %v, and %v, %v", a, e, b, f)
	}
	reads(t, api.Tape{}, nil, 0)
	reads(t, api.Tape{Data: []byte{}}, nil, 0)
}
