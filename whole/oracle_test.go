package whole

import (
	"cabochon/api"
	"math/big"
	"math/rand"
	"strings"
	"testing"
)

// samples are numbers of all lengths, on both sides of 0: small ones, those around powers of 10 and of 2, and those of words at which carries and guesses go wrong first.
func samples(more int) []string {
	var list []*big.Int
	for n := int64(0); n <= 12; n++ {
		list = append(list, big.NewInt(n))
	}
	for _, n := range []int{9, 10, 19, 20, 38, 199, 200, 399} {
		power := new(big.Int).Exp(big.NewInt(10), big.NewInt(int64(n)), nil)
		list = append(list, power, bigOf(before(power.String())))
	}
	for _, n := range []uint{31, 32, 33, 63, 64, 65, 96, 128, 640, 1312} {
		power := new(big.Int).Lsh(big.NewInt(1), n)
		list = append(list, power, bigOf(before(power.String())))
	}
	list = append(list, bigOf(nines))
	random := rand.New(rand.NewSource(2))
	for range more {
		list = append(list, ofWords(random, 1+random.Intn(41)))
	}
	var numbers []string
	for i, n := range list {
		numbers = append(numbers, n.String())
		if i%2 == 1 {
			numbers = append(numbers, new(big.Int).Neg(n).String())
		}
	}
	return numbers
}

// ofWords makes a number of so many words of 32 bits, most of them the least or the greatest or near the middle.
func ofWords(random *rand.Rand, words int) *big.Int {
	edges := []int64{0, 0, 1, 1<<31 - 1, 1 << 31, 1<<31 + 1, 1<<32 - 2, 1<<32 - 1, 1<<32 - 1}
	n := new(big.Int)
	for range words {
		word := edges[random.Intn(len(edges))]
		if random.Intn(8) == 0 {
			word = random.Int63n(1 << 32)
		}
		n.Lsh(n, 32).Or(n, big.NewInt(word))
	}
	return n
}

// limited is a number, or none if it has too many digits.
func limited(n *big.Int) got {
	if len(new(big.Int).Abs(n).String()) > 400 {
		return noText(api.ErrLimit)
	}
	return number(n.String())
}

// floorDiv rounds down, where the library rounds in other ways.
func floorDiv(x, y *big.Int) (quotient, rest *big.Int) {
	quotient, rest = new(big.Int).QuoRem(x, y, new(big.Int))
	if rest.Sign() != 0 && rest.Sign() != y.Sign() {
		quotient.Sub(quotient, big.NewInt(1))
		rest.Add(rest, y)
	}
	return quotient, rest
}

// P2.1, P2.2, P2.4: each operator on each pair, held against the library's integers
func TestPairs(t *testing.T) {
	list := samples(30)
	for _, a := range list {
		for _, b := range list {
			x, y := bigOf(a), bigOf(b)
			pair := a + " " + b
			run(t, []check{
				{"Add " + pair, of(Add(a, b)), limited(new(big.Int).Add(x, y))},
				{"Sub " + pair, of(Sub(a, b)), limited(new(big.Int).Sub(x, y))},
				{"Mul " + pair, of(Mul(a, b)), limited(new(big.Int).Mul(x, y))},
				{"Compare " + pair, of(Compare(a, b)), count(x.Cmp(y))},
			})
			if y.Sign() == 0 {
				continue
			}
			quotient, rest := floorDiv(x, y)
			run(t, []check{
				{"Div " + pair, ofDiv(Div(a, b)), parts(quotient.String(), rest.String())},
				{"Ratio " + pair, of(Ratio(a, b)), number(strings.TrimSuffix(new(big.Rat).SetFrac(x, y).String(), "/1"))},
			})
		}
	}
}

// P2.2, P2.3: each function of a single number, held against the library's integers
func TestSingles(t *testing.T) {
	for _, a := range samples(200) {
		x := bigOf(a)
		run(t, []check{{"Bits " + a, of(Bits(a)), count(x.BitLen())}})
		for base := 2; base <= 36; base++ {
			s := x.Text(base)
			run(t, []check{
				{"Base " + a, of(Base(a, base)), number(s)},
				{"Parse " + s, of(Parse(s, base)), number(a)},
				{"Parse of capital letters " + s, of(Parse(strings.ToUpper(s), base)), number(a)},
			})
		}
		if x.Sign() >= 0 {
			run(t, []check{{"Root " + a, of(Root(a)), number(new(big.Int).Sqrt(x).String())}})
		}
	}
}

// P2.2
func TestModAndGcd(t *testing.T) {
	random := rand.New(rand.NewSource(3))
	list := samples(100)
	for range 3000 {
		a, m := list[random.Intn(len(list))], list[random.Intn(len(list))]
		n := []int{0, 1, 2, 3, 10, 255, 256, 999999, 1000000, random.Intn(1000001)}[random.Intn(10)]
		want := noText(api.ErrArg)
		if x, y := bigOf(a), bigOf(m); y.Sign() > 0 {
			want = number(new(big.Int).Exp(x, big.NewInt(int64(n)), y).String())
		}
		divisor := new(big.Int).GCD(nil, nil, new(big.Int).Abs(bigOf(a)), new(big.Int).Abs(bigOf(m)))
		run(t, []check{
			{"Mod " + a + " " + Of(n) + " " + m, of(Mod(a, n, m)), want},
			{"Gcd " + a + " " + m, of(Gcd(a, m)), number(divisor.String())},
		})
	}
}

// written is a rational, or none if one of its numbers has too many digits.
func written(r *big.Rat) got {
	if limited(r.Num()).err != api.OK || limited(r.Denom()).err != api.OK {
		return noText(api.ErrLimit)
	}
	return number(strings.TrimSuffix(r.String(), "/1"))
}

// unsigned takes the sign away from what has no digit but 0.
func unsigned(s string) string {
	if strings.Trim(s, "-0.") == "" {
		return strings.TrimPrefix(s, "-")
	}
	return s
}

// P2.1, P2.4: rationals held against the library's
func TestManyRationals(t *testing.T) {
	random := rand.New(rand.NewSource(4))
	pick := func(list []string) *big.Rat {
		second := bigOf("0")
		for second.Sign() == 0 {
			second = bigOf(list[random.Intn(len(list))])
		}
		return new(big.Rat).SetFrac(bigOf(list[random.Intn(len(list))]), second)
	}
	list := samples(60)
	for range 2000 {
		x, y := pick(list), pick(list)
		p, q := written(x).value.(string), written(y).value.(string)
		places := random.Intn(101)
		run(t, []check{
			{"RatioAdd " + p + " " + q, of(RatioAdd(p, q)), written(new(big.Rat).Add(x, y))},
			{"RatioMul " + p + " " + q, of(RatioMul(p, q)), written(new(big.Rat).Mul(x, y))},
			{"RatioCompare " + p + " " + q, of(RatioCompare(p, q)), count(x.Cmp(y))},
			{"Decimal " + p + " " + Of(places), of(Decimal(p, places)), number(unsigned(x.FloatString(places)))},
		})
	}
}

// P2.4: small rationals, with all halves among them
func TestSmallDecimals(t *testing.T) {
	for second := int64(1); second <= 40; second++ {
		for first := int64(-120); first <= 120; first++ {
			x := big.NewRat(first, second)
			p := written(x).value.(string)
			for places := range 4 {
				run(t, []check{{"Decimal " + p + " " + Of(places), of(Decimal(p, places)), number(unsigned(x.FloatString(places)))}})
			}
		}
	}
}

// P2.5
func TestConsequences(t *testing.T) {
	// Factors of up to 20 words have products of up to 400 digits.
	var list []string
	for _, s := range samples(60) {
		if len(s) < 190 {
			list = append(list, s)
		}
	}
	for _, a := range list {
		for _, b := range list {
			sum, _ := Add(a, b)
			product, _ := Mul(a, b)
			run(t, []check{
				{"Add turned around", of(Add(b, a)), number(sum)},
				{"Mul turned around", of(Mul(b, a)), number(product)},
				{"Sub undoes Add", of(Sub(sum, b)), number(a)},
			})
			if b == "0" {
				continue
			}
			quotient, rest, _ := Div(a, b)
			back, _ := Mul(quotient, b)
			run(t, []check{{"Div undone", of(Add(back, rest)), number(a)}})
			sign, _ := Compare(rest, "0")
			if signOfB, _ := Compare(b, "0"); sign != 0 && sign != signOfB {
				t.Error("rest", rest, "of", b)
			}
			ratio, _ := Ratio(a, b)
			first, second, two := strings.Cut(ratio, "/")
			if !two {
				second = "1"
			}
			run(t, []check{{"Ratio of its own two numbers", of(Ratio(first, second)), number(ratio)}})
		}
	}
	for _, a := range samples(60) {
		for base := 2; base <= 36; base++ {
			s, _ := Base(a, base)
			run(t, []check{{"Parse of Base", of(Parse(s, base)), number(a)}})
		}
	}
}
