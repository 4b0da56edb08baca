package verdict

import "hustings/api"

// The sizes of the numbers in a key.
const (
	countOfSets = 1
	countOfData = 2
	lengthSize  = 2
	typeSize    = 2
)

// Key returns the key of a verdict.
func Key(v api.Verdict) string {
	b := []byte{v.Code}
	b = list(b, countOfSets, v.Sets, set)
	b = list(b, countOfSets, v.Soa, set)
	return string(b)
}

// list appends the number of items, in so many bytes, and each of them.
func list[T any](b []byte, size int, l []T, item func([]byte, T) []byte) []byte {
	b = number(b, size, len(l))
	for _, x := range l {
		b = item(b, x)
	}
	return b
}

// number appends a number of so many bytes.
func number(b []byte, size, n int) []byte {
	for i := size - 1; i >= 0; i-- {
		b = append(b, byte(n>>(8*i)))
	}
	return b
}

func set(b []byte, s api.Set) []byte {
	b = append(b, s.Name...)
	b = number(b, typeSize, int(s.Type))
	b = number(b, typeSize, int(s.Class))
	return list(b, countOfData, s.Data, datum)
}

func datum(b []byte, data string) []byte {
	return append(number(b, lengthSize, len(data)), data...)
}
