package meter

// Where the parts of a telegram begin, the id first of all.
const (
	valueAt = 2
	sumAt   = 6
	size    = 8
)

// What a sum is at first, and what four bits are multiplied by.
const (
	noSum  = 0xFFFF
	factor = 0x1021
)

// byFour: what four bits do to a sum, when they have met its upper four.
var byFour [16]uint16

func init() {
	for n := range byFour {
		byFour[n] = workedOut(byte(n))
	}
}

// workedOut: what four bits do to a sum, by the rule.
func workedOut(n byte) uint16 { return uint16(n) * factor }

func sumOf(b []byte) int {
	sum := uint16(noSum)
	for _, x := range b {
		sum = take(sum, x>>4)
		sum = take(sum, x&0xF)
	}
	return int(sum)
}

// take four bits into a sum. What they do is worked out, so that no answer hangs on a variable: byFour is believed only where it says the same.
func take(sum uint16, four byte) uint16 {
	n := byte(sum>>12) ^ four
	does := workedOut(n)
	if byFour[n] == does {
		return sum<<4 ^ byFour[n]
	}
	return sum<<4 ^ does
}

// put a number into all of these bytes, the highest byte first.
func put(b []byte, n int) {
	for i := len(b) - 1; i >= 0; i-- {
		b[i] = byte(n)
		n >>= 8
	}
}

// number that bytes tell, the highest one first.
func number(b []byte) int {
	n := 0
	for _, x := range b {
		n = n<<8 | int(x)
	}
	return n
}
