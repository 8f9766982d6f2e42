package format

import (
	"cabochon/api"
	"slices"
	"strings"
)

const (
	maxGap     = 100
	maxRows    = 200
	maxColumns = 200
	// maxCell is the length of the longest column of a row.
	maxCell = 200
)

// Columns returns rows as lines in which the columns stand below each other, with a gap between them.
func Columns(rows [][]string, gap int) ([]string, api.Errno) {
	if gap < 0 || gap > maxGap || len(rows) > maxRows || slices.ContainsFunc(rows, tooLarge) {
		return nil, api.ErrArg
	}
	widths := greatest(rows)
	lines := make([]string, 0, len(rows))
	for _, row := range rows {
		lines = append(lines, line(row, widths, gap))
	}
	return lines, api.OK
}

// tooLarge tells whether a row has too many columns, or one that is too long.
func tooLarge(row []string) bool {
	if len(row) > maxColumns {
		return true
	}
	return slices.ContainsFunc(row, func(cell string) bool { return len(cell) > maxCell })
}

// greatest returns the greatest length of each column in any row.
func greatest(rows [][]string) []int {
	var widths []int
	for _, row := range rows {
		for i, cell := range row {
			if i == len(widths) {
				widths = append(widths, 0)
			}
			widths[i] = max(widths[i], len(cell))
		}
	}
	return widths
}

// line returns a row whose columns, but for the last one, are filled to these widths and the gap behind them.
func line(row []string, widths []int, gap int) string {
	var text strings.Builder
	for i, cell := range row {
		text.WriteString(cell)
		if i < len(row)-1 {
			text.WriteString(filling(" ", widths[i]-len(cell)+gap))
		}
	}
	return text.String()
}
