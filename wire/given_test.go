package wire_test

import (
	"crypto/sha256"
	"encoding/hex"
	"os"
	"testing"

	"gavelhouse/api"
)

// The given packages stay to the byte; their tests stand here so that nothing is laid beside them.
func TestGivenPackagesStay(t *testing.T) {
	for name, want := range map[string]string{
		"../api/api.go":     "1c70b9d7794adb430bd3512ba1f837289871b86ba43ac1f9c15a5aa89ca01849",
		"../plain/plain.go": "043edb502787a6bf14849517c8666fe99bde53b8cea01d7e7bf7ced0a4362f56",
	} {
		b, err := os.ReadFile(name)
		if err != nil {
			t.Fatal(err)
		}
		sum := sha256.Sum256(b)
		if got := hex.EncodeToString(sum[:]); got != want {
			t.Errorf("%s is not as it was given: %s", name, got)
		}
	}
}

func TestNumbersOfFrames(t *testing.T) {
	for i, c := range [][2]int{
		{api.Clients, 6}, {api.Items, 3}, {api.MaxPrice, 1000}, {api.MaxQty, 1000}, {api.MaxID, 1 << 30}, {api.FrameSize, 30}, {api.Buy, 0}, {api.Sell, 1},
		{api.Login, 'l'}, {api.Beat, 'h'}, {api.Place, 'o'}, {api.Cancel, 'c'}, {api.Logout, 'q'},
	} {
		if c[0] != c[1] {
			t.Errorf("number %d is %d, want %d", i, c[0], c[1])
		}
	}
}
