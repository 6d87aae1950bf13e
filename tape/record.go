package tape

import "foretell/api"

// wordBytes: each number of a record has so many bytes.
const wordBytes = 4

// recordBytes: so many bytes has a record of many numbers, for how many they are and the sum stand beside them.
func recordBytes(many int) int { return (many + 2) * wordBytes }

// outside what a record may hold?
func outside(number int) bool { return number < 0 || number > api.MaxNumber }

// withRecord: the bytes, and a record of the numbers behind them.
func withRecord(data []byte, numbers []int) []byte {
	begin := len(data)
	data = withWord(data, len(numbers))
	for _, number := range numbers {
		data = withWord(data, number)
	}
	return withWord(data, Sum(data[begin:]))
}

// withWord: the bytes, and a number behind them.
func withWord(data []byte, number int) []byte {
	return append(data, byte(number>>24), byte(number>>16), byte(number>>8), byte(number))
}

// recordAt the beginning of these bytes: its numbers, and is it whole, just as Write makes it?
func recordAt(data []byte) ([]int, bool) {
	if len(data) < wordBytes {
		return nil, false
	}
	many := wordAt(data)
	if many > api.MaxRecord || recordBytes(many) > len(data) {
		return nil, false
	}
	sumPlace := recordBytes(many) - wordBytes
	if wordAt(data[sumPlace:]) != Sum(data[:sumPlace]) {
		return nil, false
	}
	// The sum is no proof: bytes that Write did not make may have a right one.
	numbers := make([]int, many)
	for i := range numbers {
		numbers[i] = wordAt(data[(i+1)*wordBytes:])
		if outside(numbers[i]) {
			return nil, false
		}
	}
	return numbers, true
}

// wordAt the beginning of these bytes: a number, which four bytes make 0 at least.
func wordAt(data []byte) int {
	return int(data[0])<<24 | int(data[1])<<16 | int(data[2])<<8 | int(data[3])
}
