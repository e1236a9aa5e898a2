/- EvalKnown. No condition. -/
import Derived.Test.YtkgpcodccpckeaaEk1
import Derived.Test.YtkgpcodccpckeaaFactsSl
import Derived.Test.YtkgpcodccpckeaaEv12
import Derived.Deep.CutBlock
namespace Go.Proofs.Ytkgpcodccpckeaa
open Go Go.RowKit
set_option linter.unusedVariables false
set_option linter.unusedSimpArgs false
abbrev RK15 : List Nat := (0 :: 1 :: 2 :: 3 :: 4 :: 5 :: 6 :: 7 :: 8 :: 9 :: 10 :: 11 :: 12 :: 13 :: 14 :: 15 :: 16 :: 17 :: 18 :: 19 :: 20 :: 21 :: 22 :: 23 :: 24 :: 25 :: 26 :: 27 :: 28 :: 29 :: 30 :: 31 :: 32 :: 33 :: 34 :: 35 :: 36 :: 37 :: 38 :: 39 :: 40 :: 41 :: 42 :: 43 :: 44 :: 45 :: 46 :: 47 :: 48 :: 49 :: 50 :: 51 :: 52 :: 53 :: 54 :: 55 :: 56 :: 57 :: 58 :: 59 :: 60 :: 61 :: 62 :: 63 :: 64 :: 65 :: 66 :: 67 :: 68 :: 69 :: 70 :: 71 :: 72 :: 73 :: 74 :: 75 :: 76 :: 77 :: 78 :: 79 :: 80 :: 81 :: 82 :: 83 :: 84 :: 85 :: 86 :: 87 :: 88 :: 89 :: 90 :: 91 :: 92 :: 93 :: 94 :: 95 :: 96 :: 97 :: 98 :: 99 :: 100 :: 101 :: 102 :: 103 :: 104 :: 105 :: 106 :: 107 :: 108 :: 109 :: 110 :: 111 :: 112 :: 113 :: 114 :: 115 :: 116 :: 117 :: 118 :: 119 :: 120 :: 121 :: 122 :: 123 :: 124 :: 125 :: 126 :: 127 :: 128 :: 129 :: 130 :: 131 :: 132 :: 133 :: 134 :: 135 :: 136 :: 137 :: 138 :: 139 :: 140 :: 141 :: 142 :: 143 :: 144 :: 145 :: 146 :: 147 :: 148 :: 149 :: 150 :: 151 :: 152 :: 153 :: 154 :: 155 :: 156 :: 157 :: 158 :: 159 :: 160 :: 161 :: 162 :: 163 :: 164 :: 165 :: 166 :: 167 :: 168 :: 169 :: 170 :: 171 :: 172 :: 173 :: 174 :: 175 :: 176 :: 177 :: 178 :: 179 :: 180 :: 181 :: 182 :: 183 :: 184 :: 185 :: 186 :: 187 :: 188 :: 189 :: 190 :: 191 :: 192 :: 193 :: 194 :: 195 :: 196 :: 197 :: 198 :: 199 :: 200 :: [])
def DK15 : Nat → List Nat
  | 1 => [0]
  | 2 => [1]
  | 3 => [1, 2]
  | 4 => [1]
  | 5 => [1]
  | 6 => [1, 4, 5]
  | 7 => [1, 6]
  | 8 => [1, 7]
  | 9 => [1, 7]
  | 10 => [1, 3, 8, 9]
  | 11 => [1, 10]
  | 12 => [11]
  | 13 => [12]
  | 14 => [12, 13]
  | 15 => [12]
  | 16 => [12, 15]
  | 17 => [12, 16]
  | 18 => [12, 17]
  | 19 => [12, 18]
  | 20 => [12, 19]
  | 21 => [12, 19]
  | 22 => [12, 14, 20, 21]
  | 23 => [12, 22]
  | 24 => [23]
  | 25 => [24]
  | 26 => [24, 25]
  | 27 => [24]
  | 28 => [24]
  | 29 => [24, 27, 28]
  | 30 => [24, 29]
  | 31 => [24, 30]
  | 32 => [24, 30]
  | 33 => [24, 26, 31, 32]
  | 34 => [24, 33]
  | 35 => [34]
  | 36 => [35]
  | 37 => [35, 36]
  | 38 => [35]
  | 39 => [35]
  | 40 => [35, 38, 39]
  | 41 => [35, 40]
  | 42 => [35, 41]
  | 43 => [35, 41]
  | 44 => [35, 37, 42, 43]
  | 45 => [35, 44]
  | 46 => [45]
  | 47 => [46]
  | 48 => [46, 47]
  | 49 => [46]
  | 50 => [46]
  | 51 => [46, 49, 50]
  | 52 => [46, 51]
  | 53 => [46, 52]
  | 54 => [46, 52]
  | 55 => [46, 48, 53, 54]
  | 56 => [46, 55]
  | 57 => [56]
  | 58 => [57]
  | 59 => [57, 58]
  | 60 => [57]
  | 61 => [57]
  | 62 => [57, 60, 61]
  | 63 => [57, 62]
  | 64 => [57, 63]
  | 65 => [57, 63]
  | 66 => [57, 59, 64, 65]
  | 67 => [57, 66]
  | 68 => [67]
  | 69 => [68]
  | 70 => [68, 69]
  | 71 => [68]
  | 72 => [68]
  | 73 => [68, 71, 72]
  | 74 => [68, 73]
  | 75 => [68, 74]
  | 76 => [68, 74]
  | 77 => [68, 70, 75, 76]
  | 78 => [68, 77]
  | 79 => [78]
  | 80 => [79]
  | 81 => [79, 80]
  | 82 => [79]
  | 83 => [79]
  | 84 => [79, 82, 83]
  | 85 => [79, 84]
  | 86 => [79, 85]
  | 87 => [79, 85]
  | 88 => [79, 81, 86, 87]
  | 89 => [79, 88]
  | 90 => [89]
  | 91 => [90]
  | 92 => [90, 91]
  | 93 => [90]
  | 94 => [90, 93]
  | 95 => [90, 94]
  | 96 => [90, 95]
  | 97 => [90, 96]
  | 98 => [90, 97]
  | 99 => [90, 97]
  | 100 => [90, 92, 98, 99]
  | 101 => [90, 100]
  | 102 => [101]
  | 103 => [102]
  | 104 => [102, 103]
  | 105 => [102]
  | 106 => [102]
  | 107 => [102, 105, 106]
  | 108 => [102, 107]
  | 109 => [102, 108]
  | 110 => [102, 108]
  | 111 => [102, 104, 109, 110]
  | 112 => [102, 111]
  | 113 => [112]
  | 114 => [113]
  | 115 => [113, 114]
  | 116 => [113]
  | 117 => [113]
  | 118 => [113, 116, 117]
  | 119 => [113, 118]
  | 120 => [113, 119]
  | 121 => [113, 119]
  | 122 => [113, 115, 120, 121]
  | 123 => [113, 122]
  | 124 => [123]
  | 125 => [124]
  | 126 => [124, 125]
  | 127 => [124]
  | 128 => [124]
  | 129 => [124, 127, 128]
  | 130 => [124, 129]
  | 131 => [124, 130]
  | 132 => [124, 130]
  | 133 => [124, 126, 131, 132]
  | 134 => [124, 133]
  | 135 => [134]
  | 136 => [135]
  | 137 => [135, 136]
  | 138 => [135]
  | 139 => [135]
  | 140 => [135, 138, 139]
  | 141 => [135, 140]
  | 142 => [135, 141]
  | 143 => [135, 141]
  | 144 => [135, 137, 142, 143]
  | 145 => [135, 144]
  | 146 => [145]
  | 147 => [146]
  | 148 => [146, 147]
  | 149 => [146, 148]
  | 150 => [149]
  | 151 => [150]
  | 152 => [150, 151]
  | 153 => [150, 152]
  | 154 => [153]
  | 155 => [154]
  | 156 => [154, 155]
  | 157 => [154, 156]
  | 158 => [157]
  | 159 => [158]
  | 160 => [158, 159]
  | 161 => [158, 160]
  | 162 => [161]
  | 163 => [162]
  | 164 => [162, 163]
  | 165 => [162]
  | 166 => [162, 165]
  | 167 => [162, 166]
  | 168 => [162]
  | 169 => [162, 168]
  | 170 => [162]
  | 171 => [162, 170]
  | 172 => [162]
  | 173 => [162, 172]
  | 174 => [162, 169, 171, 173]
  | 175 => [162, 167, 174]
  | 176 => [162, 175]
  | 177 => [162, 175]
  | 178 => [162, 164, 176, 177]
  | 179 => [162, 178]
  | 180 => [179]
  | 181 => [180]
  | 182 => [180, 181]
  | 183 => [180]
  | 184 => [180, 183]
  | 185 => [180, 184]
  | 186 => [180, 185]
  | 187 => [180, 186]
  | 188 => [180, 186]
  | 189 => [180, 182, 187, 188]
  | 190 => [180, 189]
  | 191 => [190]
  | 192 => [191]
  | 193 => [191, 192]
  | 194 => [191]
  | 195 => [191, 194]
  | 196 => [191, 195]
  | 197 => [191, 195]
  | 198 => [191, 193, 196, 197]
  | 199 => [191, 198]
  | 200 => [199]
  | _ => []
def mkK15 : Nat → (Nat → Nat) → Value
  | 2, k => .agg #[.int .u8 0, .int .i64 0, .string ⟨#[]⟩]
  | 3, k => .func (.func 32) #[] #[.pointer (some ⟨k 0, 0, none⟩), .pointer (some ⟨k 1, 0, none⟩)]
  | 4, k => .agg #[.int .u8 1, .int .i64 9223372036854775807, .string ⟨#[]⟩]
  | 5, k => .agg #[.int .u8 1, .int .i64 1, .string ⟨#[]⟩]
  | 6, k => .agg #[.int .u8 6, .int .u8 0, .int .i64 0, .string ⟨#[]⟩, .string ⟨#[]⟩, .string ⟨#[]⟩, .int .i64 0, .slice (some ⟨k 0, 0, none⟩) 2 2]
  | 7, k => .tuple #[.agg #[.int .u8 0, .int .i64 0, .string ⟨#[]⟩], .int .i64 152]
  | 8, k => .agg #[.int .u8 0, .int .i64 0, .string ⟨#[]⟩]
  | 9, k => .int .i64 152
  | 13, k => .agg #[.int .u8 0, .int .i64 0, .string ⟨#[]⟩]
  | 14, k => .func (.func 32) #[] #[.pointer (some ⟨k 0, 0, none⟩), .pointer (some ⟨k 1, 0, none⟩)]
  | 15, k => .agg #[.int .u8 1, .int .i64 (-9223372036854775808), .string ⟨#[]⟩]
  | 16, k => .agg #[.int .u8 1, .int .u8 1, .int .i64 (-9223372036854775808), .string ⟨#[]⟩, .string ⟨#[]⟩, .string ⟨#[]⟩, .int .i64 0, .slice none 0 0]
  | 17, k => .slice (some ⟨k 0, 0, none⟩) 1 1
  | 18, k => .agg #[.int .u8 3, .int .u8 0, .int .i64 0, .string ⟨#[]⟩, .string ⟨#[]⟩, .string ⟨#[]⟩, .int .i64 0, .slice (some ⟨k 0, 0, none⟩) 1 1]
  | 19, k => .tuple #[.agg #[.int .u8 0, .int .i64 0, .string ⟨#[]⟩], .int .i64 152]
  | 20, k => .agg #[.int .u8 0, .int .i64 0, .string ⟨#[]⟩]
  | 21, k => .int .i64 152
  | 25, k => .agg #[.int .u8 0, .int .i64 0, .string ⟨#[]⟩]
  | 26, k => .func (.func 32) #[] #[.pointer (some ⟨k 0, 0, none⟩), .pointer (some ⟨k 1, 0, none⟩)]
  | 27, k => .agg #[.int .u8 1, .int .i64 7, .string ⟨#[]⟩]
  | 28, k => .agg #[.int .u8 1, .int .i64 0, .string ⟨#[]⟩]
  | 29, k => .agg #[.int .u8 9, .int .u8 0, .int .i64 0, .string ⟨#[]⟩, .string ⟨#[]⟩, .string ⟨#[]⟩, .int .i64 0, .slice (some ⟨k 0, 0, none⟩) 2 2]
  | 30, k => .tuple #[.agg #[.int .u8 0, .int .i64 0, .string ⟨#[]⟩], .int .i64 0]
  | 31, k => .agg #[.int .u8 0, .int .i64 0, .string ⟨#[]⟩]
  | 32, k => .int .i64 0
  | 36, k => .agg #[.int .u8 1, .int .i64 (-3), .string ⟨#[]⟩]
  | 37, k => .func (.func 32) #[] #[.pointer (some ⟨k 0, 0, none⟩), .pointer (some ⟨k 1, 0, none⟩)]
  | 38, k => .agg #[.int .u8 1, .int .i64 (-7), .string ⟨#[]⟩]
  | 39, k => .agg #[.int .u8 1, .int .i64 2, .string ⟨#[]⟩]
  | 40, k => .agg #[.int .u8 9, .int .u8 0, .int .i64 0, .string ⟨#[]⟩, .string ⟨#[]⟩, .string ⟨#[]⟩, .int .i64 0, .slice (some ⟨k 0, 0, none⟩) 2 2]
  | 41, k => .tuple #[.agg #[.int .u8 1, .int .i64 (-3), .string ⟨#[]⟩], .int .i64 0]
  | 42, k => .agg #[.int .u8 1, .int .i64 (-3), .string ⟨#[]⟩]
  | 43, k => .int .i64 0
  | 47, k => .agg #[.int .u8 1, .int .i64 (-1), .string ⟨#[]⟩]
  | 48, k => .func (.func 32) #[] #[.pointer (some ⟨k 0, 0, none⟩), .pointer (some ⟨k 1, 0, none⟩)]
  | 49, k => .agg #[.int .u8 1, .int .i64 (-7), .string ⟨#[]⟩]
  | 50, k => .agg #[.int .u8 1, .int .i64 2, .string ⟨#[]⟩]
  | 51, k => .agg #[.int .u8 10, .int .u8 0, .int .i64 0, .string ⟨#[]⟩, .string ⟨#[]⟩, .string ⟨#[]⟩, .int .i64 0, .slice (some ⟨k 0, 0, none⟩) 2 2]
  | 52, k => .tuple #[.agg #[.int .u8 1, .int .i64 (-1), .string ⟨#[]⟩], .int .i64 0]
  | 53, k => .agg #[.int .u8 1, .int .i64 (-1), .string ⟨#[]⟩]
  | 54, k => .int .i64 0
  | 58, k => .agg #[.int .u8 1, .int .i64 0, .string ⟨#[]⟩]
  | 59, k => .func (.func 32) #[] #[.pointer (some ⟨k 0, 0, none⟩), .pointer (some ⟨k 1, 0, none⟩)]
  | 60, k => .agg #[.int .u8 1, .int .i64 0, .string ⟨#[]⟩]
  | 61, k => .agg #[.int .u8 0, .int .i64 0, .string ⟨#[]⟩]
  | 62, k => .agg #[.int .u8 18, .int .u8 0, .int .i64 0, .string ⟨#[]⟩, .string ⟨#[]⟩, .string ⟨#[]⟩, .int .i64 0, .slice (some ⟨k 0, 0, none⟩) 2 2]
  | 63, k => .tuple #[.agg #[.int .u8 1, .int .i64 0, .string ⟨#[]⟩], .int .i64 0]
  | 64, k => .agg #[.int .u8 1, .int .i64 0, .string ⟨#[]⟩]
  | 65, k => .int .i64 0
  | 69, k => .agg #[.int .u8 0, .int .i64 0, .string ⟨#[]⟩]
  | 70, k => .func (.func 32) #[] #[.pointer (some ⟨k 0, 0, none⟩), .pointer (some ⟨k 1, 0, none⟩)]
  | 71, k => .agg #[.int .u8 1, .int .i64 1, .string ⟨#[]⟩]
  | 72, k => .agg #[.int .u8 0, .int .i64 0, .string ⟨#[]⟩]
  | 73, k => .agg #[.int .u8 18, .int .u8 0, .int .i64 0, .string ⟨#[]⟩, .string ⟨#[]⟩, .string ⟨#[]⟩, .int .i64 0, .slice (some ⟨k 0, 0, none⟩) 2 2]
  | 74, k => .tuple #[.agg #[.int .u8 0, .int .i64 0, .string ⟨#[]⟩], .int .i64 0]
  | 75, k => .agg #[.int .u8 0, .int .i64 0, .string ⟨#[]⟩]
  | 76, k => .int .i64 0
  | 80, k => .agg #[.int .u8 1, .int .i64 1, .string ⟨#[]⟩]
  | 81, k => .func (.func 32) #[] #[.pointer (some ⟨k 0, 0, none⟩), .pointer (some ⟨k 1, 0, none⟩)]
  | 82, k => .agg #[.int .u8 1, .int .i64 1, .string ⟨#[]⟩]
  | 83, k => .agg #[.int .u8 0, .int .i64 0, .string ⟨#[]⟩]
  | 84, k => .agg #[.int .u8 19, .int .u8 0, .int .i64 0, .string ⟨#[]⟩, .string ⟨#[]⟩, .string ⟨#[]⟩, .int .i64 0, .slice (some ⟨k 0, 0, none⟩) 2 2]
  | 85, k => .tuple #[.agg #[.int .u8 1, .int .i64 1, .string ⟨#[]⟩], .int .i64 0]
  | 86, k => .agg #[.int .u8 1, .int .i64 1, .string ⟨#[]⟩]
  | 87, k => .int .i64 0
  | 91, k => .agg #[.int .u8 0, .int .i64 0, .string ⟨#[]⟩]
  | 92, k => .func (.func 32) #[] #[.pointer (some ⟨k 0, 0, none⟩), .pointer (some ⟨k 1, 0, none⟩)]
  | 93, k => .agg #[.int .u8 0, .int .i64 0, .string ⟨#[]⟩]
  | 94, k => .agg #[.int .u8 1, .int .u8 0, .int .i64 0, .string ⟨#[]⟩, .string ⟨#[]⟩, .string ⟨#[]⟩, .int .i64 0, .slice none 0 0]
  | 95, k => .slice (some ⟨k 0, 0, none⟩) 1 1
  | 96, k => .agg #[.int .u8 4, .int .u8 0, .int .i64 0, .string ⟨#[]⟩, .string ⟨#[]⟩, .string ⟨#[]⟩, .int .i64 0, .slice (some ⟨k 0, 0, none⟩) 1 1]
  | 97, k => .tuple #[.agg #[.int .u8 0, .int .i64 0, .string ⟨#[]⟩], .int .i64 0]
  | 98, k => .agg #[.int .u8 0, .int .i64 0, .string ⟨#[]⟩]
  | 99, k => .int .i64 0
  | 103, k => .agg #[.int .u8 0, .int .i64 0, .string ⟨#[]⟩]
  | 104, k => .func (.func 32) #[] #[.pointer (some ⟨k 0, 0, none⟩), .pointer (some ⟨k 1, 0, none⟩)]
  | 105, k => .agg #[.int .u8 1, .int .i64 1, .string ⟨#[]⟩]
  | 106, k => .agg #[.int .u8 2, .int .i64 0, .string ⟨#[97]⟩]
  | 107, k => .agg #[.int .u8 12, .int .u8 0, .int .i64 0, .string ⟨#[]⟩, .string ⟨#[]⟩, .string ⟨#[]⟩, .int .i64 0, .slice (some ⟨k 0, 0, none⟩) 2 2]
  | 108, k => .tuple #[.agg #[.int .u8 0, .int .i64 0, .string ⟨#[]⟩], .int .i64 150]
  | 109, k => .agg #[.int .u8 0, .int .i64 0, .string ⟨#[]⟩]
  | 110, k => .int .i64 150
  | 114, k => .agg #[.int .u8 1, .int .i64 1, .string ⟨#[]⟩]
  | 115, k => .func (.func 32) #[] #[.pointer (some ⟨k 0, 0, none⟩), .pointer (some ⟨k 1, 0, none⟩)]
  | 116, k => .agg #[.int .u8 2, .int .i64 0, .string ⟨#[97]⟩]
  | 117, k => .agg #[.int .u8 2, .int .i64 0, .string ⟨#[98]⟩]
  | 118, k => .agg #[.int .u8 14, .int .u8 0, .int .i64 0, .string ⟨#[]⟩, .string ⟨#[]⟩, .string ⟨#[]⟩, .int .i64 0, .slice (some ⟨k 0, 0, none⟩) 2 2]
  | 119, k => .tuple #[.agg #[.int .u8 1, .int .i64 1, .string ⟨#[]⟩], .int .i64 0]
  | 120, k => .agg #[.int .u8 1, .int .i64 1, .string ⟨#[]⟩]
  | 121, k => .int .i64 0
  | 125, k => .agg #[.int .u8 0, .int .i64 0, .string ⟨#[]⟩]
  | 126, k => .func (.func 32) #[] #[.pointer (some ⟨k 0, 0, none⟩), .pointer (some ⟨k 1, 0, none⟩)]
  | 127, k => .agg #[.int .u8 0, .int .i64 0, .string ⟨#[]⟩]
  | 128, k => .agg #[.int .u8 1, .int .i64 1, .string ⟨#[]⟩]
  | 129, k => .agg #[.int .u8 12, .int .u8 0, .int .i64 0, .string ⟨#[]⟩, .string ⟨#[]⟩, .string ⟨#[]⟩, .int .i64 0, .slice (some ⟨k 0, 0, none⟩) 2 2]
  | 130, k => .tuple #[.agg #[.int .u8 0, .int .i64 0, .string ⟨#[]⟩], .int .i64 0]
  | 131, k => .agg #[.int .u8 0, .int .i64 0, .string ⟨#[]⟩]
  | 132, k => .int .i64 0
  | 136, k => .agg #[.int .u8 0, .int .i64 0, .string ⟨#[]⟩]
  | 137, k => .func (.func 32) #[] #[.pointer (some ⟨k 0, 0, none⟩), .pointer (some ⟨k 1, 0, none⟩)]
  | 138, k => .agg #[.int .u8 1, .int .i64 1, .string ⟨#[]⟩]
  | 139, k => .agg #[.int .u8 2, .int .i64 0, .string ⟨#[97]⟩]
  | 140, k => .agg #[.int .u8 6, .int .u8 0, .int .i64 0, .string ⟨#[]⟩, .string ⟨#[]⟩, .string ⟨#[]⟩, .int .i64 0, .slice (some ⟨k 0, 0, none⟩) 2 2]
  | 141, k => .tuple #[.agg #[.int .u8 0, .int .i64 0, .string ⟨#[]⟩], .int .i64 150]
  | 142, k => .agg #[.int .u8 0, .int .i64 0, .string ⟨#[]⟩]
  | 143, k => .int .i64 150
  | 147, k => .int .u8 0
  | 151, k => .int .i64 151
  | 155, k => .int .u8 0
  | 159, k => .int .i64 151
  | 163, k => .agg #[.int .u8 1, .int .i64 3, .string ⟨#[]⟩]
  | 164, k => .func (.func 32) #[] #[.pointer (some ⟨k 0, 0, none⟩), .pointer (some ⟨k 1, 0, none⟩)]
  | 165, k => .agg #[.int .u8 2, .int .u8 0, .int .i64 0, .string ⟨#[]⟩, .string ⟨#[]⟩, .string ⟨#[]⟩, .int .i64 0, .slice none 0 0]
  | 166, k => .slice (some ⟨k 0, 0, none⟩) 1 1
  | 167, k => .agg #[.int .u8 21, .int .u8 0, .int .i64 0, .string ⟨#[]⟩, .string ⟨#[]⟩, .string ⟨#[]⟩, .int .i64 0, .slice (some ⟨k 0, 0, none⟩) 1 1]
  | 168, k => .agg #[.int .u8 1, .int .i64 1, .string ⟨#[]⟩]
  | 169, k => .slice (some ⟨k 0, 0, none⟩) 1 1
  | 170, k => .agg #[.int .u8 0, .int .i64 0, .string ⟨#[]⟩]
  | 171, k => .slice (some ⟨k 0, 0, none⟩) 1 1
  | 172, k => .agg #[.int .u8 1, .int .i64 2, .string ⟨#[]⟩]
  | 173, k => .slice (some ⟨k 0, 0, none⟩) 1 1
  | 174, k => .slice (some ⟨k 0, 0, none⟩) 3 3
  | 175, k => .tuple #[.agg #[.int .u8 1, .int .i64 3, .string ⟨#[]⟩], .int .i64 0]
  | 176, k => .agg #[.int .u8 1, .int .i64 3, .string ⟨#[]⟩]
  | 177, k => .int .i64 0
  | 181, k => .agg #[.int .u8 0, .int .i64 0, .string ⟨#[]⟩]
  | 182, k => .func (.func 32) #[] #[.pointer (some ⟨k 0, 0, none⟩), .pointer (some ⟨k 1, 0, none⟩)]
  | 183, k => .agg #[.int .u8 2, .int .u8 0, .int .i64 0, .string ⟨#[]⟩, .string ⟨#[]⟩, .string ⟨#[]⟩, .int .i64 0, .slice none 0 0]
  | 184, k => .slice (some ⟨k 0, 0, none⟩) 1 1
  | 185, k => .agg #[.int .u8 21, .int .u8 0, .int .i64 0, .string ⟨#[]⟩, .string ⟨#[]⟩, .string ⟨#[]⟩, .int .i64 0, .slice (some ⟨k 0, 0, none⟩) 1 1]
  | 186, k => .tuple #[.agg #[.int .u8 0, .int .i64 0, .string ⟨#[]⟩], .int .i64 0]
  | 187, k => .agg #[.int .u8 0, .int .i64 0, .string ⟨#[]⟩]
  | 188, k => .int .i64 0
  | 192, k => .agg #[.int .u8 1, .int .i64 0, .string ⟨#[]⟩]
  | 193, k => .func (.func 32) #[] #[.pointer (some ⟨k 0, 0, none⟩), .pointer (some ⟨k 1, 0, none⟩)]
  | 194, k => .agg #[.int .u8 20, .int .u8 0, .int .i64 0, .string ⟨#[]⟩, .string ⟨#[]⟩, .string ⟨#[]⟩, .int .i64 0, .slice none 0 0]
  | 195, k => .tuple #[.agg #[.int .u8 1, .int .i64 0, .string ⟨#[]⟩], .int .i64 0]
  | 196, k => .agg #[.int .u8 1, .int .i64 0, .string ⟨#[]⟩]
  | 197, k => .int .i64 0
  | _, _ => .bool true
def ptK15 : Nat → Pk
  | 3 => .is ((0, 0, ⟨#[]⟩) : Val) 152
  | 6 => .kids [leafX ((1, 9223372036854775807, ⟨#[]⟩) : Val), leafX ((1, 1, ⟨#[]⟩) : Val)]
  | 14 => .is ((0, 0, ⟨#[]⟩) : Val) 152
  | 17 => .kids [leafX ((1, (-9223372036854775808), ⟨#[]⟩) : Val)]
  | 18 => .kids [leafX ((1, (-9223372036854775808), ⟨#[]⟩) : Val)]
  | 26 => .is ((0, 0, ⟨#[]⟩) : Val) 0
  | 29 => .kids [leafX ((1, 7, ⟨#[]⟩) : Val), leafX ((1, 0, ⟨#[]⟩) : Val)]
  | 37 => .is ((1, (-3), ⟨#[]⟩) : Val) 0
  | 40 => .kids [leafX ((1, (-7), ⟨#[]⟩) : Val), leafX ((1, 2, ⟨#[]⟩) : Val)]
  | 48 => .is ((1, (-1), ⟨#[]⟩) : Val) 0
  | 51 => .kids [leafX ((1, (-7), ⟨#[]⟩) : Val), leafX ((1, 2, ⟨#[]⟩) : Val)]
  | 59 => .is ((1, 0, ⟨#[]⟩) : Val) 0
  | 62 => .kids [leafX ((1, 0, ⟨#[]⟩) : Val), leafX ((0, 0, ⟨#[]⟩) : Val)]
  | 70 => .is ((0, 0, ⟨#[]⟩) : Val) 0
  | 73 => .kids [leafX ((1, 1, ⟨#[]⟩) : Val), leafX ((0, 0, ⟨#[]⟩) : Val)]
  | 81 => .is ((1, 1, ⟨#[]⟩) : Val) 0
  | 84 => .kids [leafX ((1, 1, ⟨#[]⟩) : Val), leafX ((0, 0, ⟨#[]⟩) : Val)]
  | 92 => .is ((0, 0, ⟨#[]⟩) : Val) 0
  | 95 => .kids [leafX ((0, 0, ⟨#[]⟩) : Val)]
  | 96 => .kids [leafX ((0, 0, ⟨#[]⟩) : Val)]
  | 104 => .is ((0, 0, ⟨#[]⟩) : Val) 150
  | 107 => .kids [leafX ((1, 1, ⟨#[]⟩) : Val), leafX ((2, 0, ⟨#[97]⟩) : Val)]
  | 115 => .is ((1, 1, ⟨#[]⟩) : Val) 0
  | 118 => .kids [leafX ((2, 0, ⟨#[97]⟩) : Val), leafX ((2, 0, ⟨#[98]⟩) : Val)]
  | 126 => .is ((0, 0, ⟨#[]⟩) : Val) 0
  | 129 => .kids [leafX ((0, 0, ⟨#[]⟩) : Val), leafX ((1, 1, ⟨#[]⟩) : Val)]
  | 137 => .is ((0, 0, ⟨#[]⟩) : Val) 150
  | 140 => .kids [leafX ((1, 1, ⟨#[]⟩) : Val), leafX ((2, 0, ⟨#[97]⟩) : Val)]
  | 164 => .is ((1, 3, ⟨#[]⟩) : Val) 0
  | 166 => .kids [colX 0]
  | 167 => .kids [colX 0]
  | 169 => .row [((1, 1, ⟨#[]⟩) : Val)]
  | 171 => .row [((0, 0, ⟨#[]⟩) : Val)]
  | 173 => .row [((1, 2, ⟨#[]⟩) : Val)]
  | 174 => .rows ((1, 1, ⟨#[]⟩) : Val) ((0, 0, ⟨#[]⟩) : Val) ((1, 2, ⟨#[]⟩) : Val)
  | 182 => .is ((0, 0, ⟨#[]⟩) : Val) 0
  | 184 => .kids [colX 0]
  | 185 => .kids [colX 0]
  | 193 => .is ((1, 0, ⟨#[]⟩) : Val) 0
  | _ => .no
def slK (i : Nat) : Nat := if i = 200 then 0 else 19 + i
abbrev GK : List Nat := [1, 12, 24, 35, 46, 57, 68, 79, 90, 102, 113, 124, 135, 146, 150, 154, 158, 162, 180, 191]
abbrev XK : List Nat := [1, 2, 3, 4, 5]
theorem mem_RK : ∀ j, j < 201 → j ∈ ((0 :: 1 :: 2 :: 3 :: 4 :: 5 :: 6 :: 7 :: 8 :: 9 :: 10 :: 11 :: 12 :: 13 :: 14 :: 15 :: 16 :: 17 :: 18 :: 19 :: 20 :: 21 :: 22 :: 23 :: 24 :: 25 :: 26 :: 27 :: 28 :: 29 :: 30 :: 31 :: 32 :: 33 :: 34 :: 35 :: 36 :: 37 :: 38 :: 39 :: 40 :: 41 :: 42 :: 43 :: 44 :: 45 :: 46 :: 47 :: 48 :: 49 :: 50 :: 51 :: 52 :: 53 :: 54 :: 55 :: 56 :: 57 :: 58 :: 59 :: 60 :: 61 :: 62 :: 63 :: 64 :: 65 :: 66 :: 67 :: 68 :: 69 :: 70 :: 71 :: 72 :: 73 :: 74 :: 75 :: 76 :: 77 :: 78 :: 79 :: 80 :: 81 :: 82 :: 83 :: 84 :: 85 :: 86 :: 87 :: 88 :: 89 :: 90 :: 91 :: 92 :: 93 :: 94 :: 95 :: 96 :: 97 :: 98 :: 99 :: 100 :: 101 :: 102 :: 103 :: 104 :: 105 :: 106 :: 107 :: 108 :: 109 :: 110 :: 111 :: 112 :: 113 :: 114 :: 115 :: 116 :: 117 :: 118 :: 119 :: 120 :: 121 :: 122 :: 123 :: 124 :: 125 :: 126 :: 127 :: 128 :: 129 :: 130 :: 131 :: 132 :: 133 :: 134 :: 135 :: 136 :: 137 :: 138 :: 139 :: 140 :: 141 :: 142 :: 143 :: 144 :: 145 :: 146 :: 147 :: 148 :: 149 :: 150 :: 151 :: 152 :: 153 :: 154 :: 155 :: 156 :: 157 :: 158 :: 159 :: 160 :: 161 :: 162 :: 163 :: 164 :: 165 :: 166 :: 167 :: 168 :: 169 :: 170 :: 171 :: 172 :: 173 :: 174 :: 175 :: 176 :: 177 :: 178 :: 179 :: 180 :: 181 :: 182 :: 183 :: 184 :: 185 :: 186 :: 187 :: 188 :: 189 :: 190 :: 191 :: 192 :: 193 :: 194 :: 195 :: 196 :: 197 :: 198 :: 199 :: 200 :: [])) := by decide +kernel
theorem lt_RK : ∀ j ∈ ((0 :: 1 :: 2 :: 3 :: 4 :: 5 :: 6 :: 7 :: 8 :: 9 :: 10 :: 11 :: 12 :: 13 :: 14 :: 15 :: 16 :: 17 :: 18 :: 19 :: 20 :: 21 :: 22 :: 23 :: 24 :: 25 :: 26 :: 27 :: 28 :: 29 :: 30 :: 31 :: 32 :: 33 :: 34 :: 35 :: 36 :: 37 :: 38 :: 39 :: 40 :: 41 :: 42 :: 43 :: 44 :: 45 :: 46 :: 47 :: 48 :: 49 :: 50 :: 51 :: 52 :: 53 :: 54 :: 55 :: 56 :: 57 :: 58 :: 59 :: 60 :: 61 :: 62 :: 63 :: 64 :: 65 :: 66 :: 67 :: 68 :: 69 :: 70 :: 71 :: 72 :: 73 :: 74 :: 75 :: 76 :: 77 :: 78 :: 79 :: 80 :: 81 :: 82 :: 83 :: 84 :: 85 :: 86 :: 87 :: 88 :: 89 :: 90 :: 91 :: 92 :: 93 :: 94 :: 95 :: 96 :: 97 :: 98 :: 99 :: 100 :: 101 :: 102 :: 103 :: 104 :: 105 :: 106 :: 107 :: 108 :: 109 :: 110 :: 111 :: 112 :: 113 :: 114 :: 115 :: 116 :: 117 :: 118 :: 119 :: 120 :: 121 :: 122 :: 123 :: 124 :: 125 :: 126 :: 127 :: 128 :: 129 :: 130 :: 131 :: 132 :: 133 :: 134 :: 135 :: 136 :: 137 :: 138 :: 139 :: 140 :: 141 :: 142 :: 143 :: 144 :: 145 :: 146 :: 147 :: 148 :: 149 :: 150 :: 151 :: 152 :: 153 :: 154 :: 155 :: 156 :: 157 :: 158 :: 159 :: 160 :: 161 :: 162 :: 163 :: 164 :: 165 :: 166 :: 167 :: 168 :: 169 :: 170 :: 171 :: 172 :: 173 :: 174 :: 175 :: 176 :: 177 :: 178 :: 179 :: 180 :: 181 :: 182 :: 183 :: 184 :: 185 :: 186 :: 187 :: 188 :: 189 :: 190 :: 191 :: 192 :: 193 :: 194 :: 195 :: 196 :: 197 :: 198 :: 199 :: 200 :: [])), j < 201 := by decide +kernel
/-- the null value's block -/
def Kw (w : World) (W : World) : Prop := Blk W w.heap.size 23 #[.int .u8 0, .int .i64 0, .string ⟨#[]⟩] ∧ Below w.heap.size w W
theorem kw_step {w W W' : World} (h : Kw w W) (hb : Below W.heap.size W W') : Kw w W' := ⟨blk_step h.1 hb, bj h.2 hb⟩
theorem kw_drew {w W : World} (h : Kw w W) : Kw w W.drew := ⟨h.1.drew, h.2.drew⟩
set_option maxRecDepth 100000 in
set_option maxHeartbeats 64000000 in
theorem evalKnown_walk (w : World) : Calls Try.prog 3 #[] w fun e w' => e = .returned (.bool true) ∧ Below w.heap.size w w' := by
  have HK := Lib.hid (show Kw w (w.alloc (.cells #[.int .u8 0, .int .i64 0, .string ⟨#[]⟩] 23)) from ⟨Blk.new _ _ _, one_alloc⟩)
  go_enter Try.func3, Try.ntmps3
  go_wp2_with fail
  refine (mkof_any 20 none 0 0 _).mono ?_
  rintro e w1 ⟨rfl, hb1⟩
  have HK1 := Lib.hid (kw_step HK.out hb1)
  clear hb1 HK
  go_wp2_with fail
  refine (type_c _).mono ?_
  rintro e w2 ⟨rfl, hb2⟩
  have HK2 := Lib.hid (kw_step HK1.out hb2)
  clear hb2 HK1
  go_wp2_with fail
  refine (mkof_any 20 none 0 0 _).mono ?_
  rintro e w3 ⟨rfl, hb3⟩
  have HK3 := Lib.hid (kw_step HK2.out hb3)
  clear hb3 HK2
  go_wp2_with fail
  refine (mkof_any 21 (some ⟨w3.heap.size, 0, none⟩) 1 1 _).mono ?_
  rintro e w4 ⟨rfl, hb4⟩
  have HKD := Lib.hid (show Kids w4 w4.heap.size (some ⟨w3.heap.size, 0, none⟩) [nodeX 20 none 0 0] from kids_step (kids_1 (x := nodeX 20 none 0 0) (Blk.new w3 29 (exC (nodeX 20 none 0 0)))) hb4)
  have HK4 := Lib.hid (kw_step (kw_step HK3.out one_alloc) hb4)
  clear hb4 HK3
  go_wp2_with fail
  refine (type_s w3.heap.size _ HKD.out).mono ?_
  rintro e w5 ⟨rfl, hb5⟩
  have HK5 := Lib.hid (kw_drew (kw_step HK4.out hb5))
  clear hb5 HK4 HKD
  go_upto_region 4 with fail
  refine wp_region_noPanic ?_
  refine wp_region_any (by kernel_rfl) ?_
  refine facts_sl (0 :: 1 :: 2 :: 3 :: 4 :: 5 :: 6 :: 7 :: 8 :: 9 :: 10 :: 11 :: 12 :: 13 :: 14 :: 15 :: 16 :: 17 :: 18 :: 19 :: 20 :: 21 :: 22 :: 23 :: 24 :: 25 :: 26 :: 27 :: 28 :: 29 :: 30 :: 31 :: 32 :: 33 :: 34 :: 35 :: 36 :: 37 :: 38 :: 39 :: 40 :: 41 :: 42 :: 43 :: 44 :: 45 :: 46 :: 47 :: 48 :: 49 :: 50 :: 51 :: 52 :: 53 :: 54 :: 55 :: 56 :: 57 :: 58 :: 59 :: 60 :: 61 :: 62 :: 63 :: 64 :: 65 :: 66 :: 67 :: 68 :: 69 :: 70 :: 71 :: 72 :: 73 :: 74 :: 75 :: 76 :: 77 :: 78 :: 79 :: 80 :: 81 :: 82 :: 83 :: 84 :: 85 :: 86 :: 87 :: 88 :: 89 :: 90 :: 91 :: 92 :: 93 :: 94 :: 95 :: 96 :: 97 :: 98 :: 99 :: 100 :: 101 :: 102 :: 103 :: 104 :: 105 :: 106 :: 107 :: 108 :: 109 :: 110 :: 111 :: 112 :: 113 :: 114 :: 115 :: 116 :: 117 :: 118 :: 119 :: 120 :: 121 :: 122 :: 123 :: 124 :: 125 :: 126 :: 127 :: 128 :: 129 :: 130 :: 131 :: 132 :: 133 :: 134 :: 135 :: 136 :: 137 :: 138 :: 139 :: 140 :: 141 :: 142 :: 143 :: 144 :: 145 :: 146 :: 147 :: 148 :: 149 :: 150 :: 151 :: 152 :: 153 :: 154 :: 155 :: 156 :: 157 :: 158 :: 159 :: 160 :: 161 :: 162 :: 163 :: 164 :: 165 :: 166 :: 167 :: 168 :: 169 :: 170 :: 171 :: 172 :: 173 :: 174 :: 175 :: 176 :: 177 :: 178 :: 179 :: 180 :: 181 :: 182 :: 183 :: 184 :: 185 :: 186 :: 187 :: 188 :: 189 :: 190 :: 191 :: 192 :: 193 :: 194 :: 195 :: 196 :: 197 :: 198 :: 199 :: 200 :: []) DK15 (Fk mkK15 ptK15) _ _ _ _ #[true, true, true, true, true, true, true, true, true, true, true, true, true, true, true, true, true, true, true, true, true, true, true, true, true, true, true, true, true, true, true, true, true, true, true, true, true, true, true, true, true, true, true, true, true, true, true, true, true, true, true, true, true, true, true, true, true, true, true, true, true, true, true, true, true, true, true, true, true, true, true, true, true, true, true, true, true, true, true, true, true, true, true, true, true, true, true, true, true, true, true, true, true, true, true, true, true, true, true, true, true, true, true, true, true, true, true, true, true, true, true, true, true, true, true, true, true, true, true, true, true, true, true, true, true, true, true, true, true, true, true, true, true, true, true, true, true, true, true, true, true, true, true, true, true, true, true, true, true, true, true, true, true, true, true, true, true, true, true, true, true, true, true, true, true, true, true, true, true, true, true, true, true, true, true, true, true, true, true, true, true, true, true, true, true, true, true, true, true, true, true, true, true, true, true, true, true, true, true, true, true] slK GK XK 219 (by kernel_rfl) (by kernel_rfl) (by rfl) (by rfl) fk_step ?hT ?hstep ?hend
  case hT =>
    intro g hg v W hF
    obtain ⟨k, h, _⟩ := hF
    simp only [GK, List.mem_cons, List.not_mem_nil, or_false] at hg
    rcases hg with rfl | rfl | rfl | rfl | rfl | rfl | rfl | rfl | rfl | rfl | rfl | rfl | rfl | rfl | rfl | rfl | rfl | rfl | rfl | rfl
    all_goals exact h
  case hstep =>
    intro i hi x W hd hb A hA hX K hK o ho K' hK'
    have hs := kw_step HK5.out hb
    have hA2 : ∀ j, j < 201 → A.tmps[slK j]? = some (x j) := fun j hj => hA j (mem_RK j hj)
    have hi2 := lt_RK i hi
    clear hA hi hb
    by_cases hc0 : i < 25
    · obtain rfl | rfl | rfl | rfl | rfl | rfl | rfl | rfl | rfl | rfl | rfl | rfl | rfl | rfl | rfl | rfl | rfl | rfl | rfl | rfl | rfl | rfl | rfl | rfl | rfl : i = 0 ∨ i = 1 ∨ i = 2 ∨ i = 3 ∨ i = 4 ∨ i = 5 ∨ i = 6 ∨ i = 7 ∨ i = 8 ∨ i = 9 ∨ i = 10 ∨ i = 11 ∨ i = 12 ∨ i = 13 ∨ i = 14 ∨ i = 15 ∨ i = 16 ∨ i = 17 ∨ i = 18 ∨ i = 19 ∨ i = 20 ∨ i = 21 ∨ i = 22 ∨ i = 23 ∨ i = 24 := by omega
      · obtain rfl := Option.some.inj (ho.symm.trans rfl)
        clear ho
        clear hA2 hX hd
        go_simp
        refine (works15 _).mono ?_
        rintro e w6 ⟨rfl, hb6⟩
        exact hK' _ _ (hK _ _ ⟨fun _ => 0, rfl, trivial⟩ hb6)
      · obtain rfl := Option.some.inj (ho.symm.trans rfl)
        clear ho
        have e19 : A.tmps[19]? = some (x 0) := hA2 0 (by omega)
        obtain ⟨k19, f19, h19⟩ := hd 0 (by decide)
        replace f19 : x 0 = .bool true := f19
        clear h19
        rw [f19] at e19
        clear hA2 hX hd
        go_simp
        exact hK' _ _ (hK _ _ ⟨fun _ => 0, rfl, trivial⟩ (Below.refl _ _))
      · obtain rfl := Option.some.inj (ho.symm.trans rfl)
        clear ho
        have e1 : A.tmps[1]? = some (.pointer (some ⟨w.heap.size, 0, none⟩)) := (hX 1 (by decide)).trans rfl
        have e20 : A.tmps[20]? = some (x 1) := hA2 1 (by omega)
        obtain ⟨k20, f20, h20⟩ := hd 1 (by decide)
        replace f20 : x 1 = .bool true := f20
        clear h20
        rw [f20] at e20
        clear hA2 hX hd
        have c0 := hs.1.cell 0
        have c1 := hs.1.cell 1
        have c2 := hs.1.cell 2
        go_simp
        exact hK' _ _ (hK _ _ ⟨fun _ => 0, rfl, trivial⟩ (Below.refl _ _))
      · obtain rfl := Option.some.inj (ho.symm.trans rfl)
        clear ho
        have e20 : A.tmps[20]? = some (x 1) := hA2 1 (by omega)
        obtain ⟨k20, f20, h20⟩ := hd 1 (by decide)
        replace f20 : x 1 = .bool true := f20
        clear h20
        rw [f20] at e20
        have e21 : A.tmps[21]? = some (x 2) := hA2 2 (by omega)
        obtain ⟨k21, f21, h21⟩ := hd 2 (by decide)
        replace f21 : x 2 = .agg #[.int .u8 0, .int .i64 0, .string ⟨#[]⟩] := f21
        clear h21
        rw [f21] at e21
        clear hA2 hX hd
        go_simp
        refine (mkis_any ((0, 0, ⟨#[]⟩) : Val) 152 _).mono ?_
        rintro e w6 ⟨g6, h6, rfl, hi6, hb6⟩
        exact hK' _ _ (hK _ _ ⟨kk4 g6 h6 0 0, rfl, hi6⟩ hb6)
      · obtain rfl := Option.some.inj (ho.symm.trans rfl)
        clear ho
        have e20 : A.tmps[20]? = some (x 1) := hA2 1 (by omega)
        obtain ⟨k20, f20, h20⟩ := hd 1 (by decide)
        replace f20 : x 1 = .bool true := f20
        clear h20
        rw [f20] at e20
        clear hA2 hX hd
        go_simp
        refine (mkNumber15 _ _).mono ?_
        rintro e w6 ⟨rfl, hb6⟩
        exact hK' _ _ (hK _ _ ⟨fun _ => 0, rfl, trivial⟩ hb6)
      · obtain rfl := Option.some.inj (ho.symm.trans rfl)
        clear ho
        have e20 : A.tmps[20]? = some (x 1) := hA2 1 (by omega)
        obtain ⟨k20, f20, h20⟩ := hd 1 (by decide)
        replace f20 : x 1 = .bool true := f20
        clear h20
        rw [f20] at e20
        clear hA2 hX hd
        go_simp
        refine (mkNumber15 _ _).mono ?_
        rintro e w6 ⟨rfl, hb6⟩
        exact hK' _ _ (hK _ _ ⟨fun _ => 0, rfl, trivial⟩ hb6)
      · obtain rfl := Option.some.inj (ho.symm.trans rfl)
        clear ho
        have e20 : A.tmps[20]? = some (x 1) := hA2 1 (by omega)
        obtain ⟨k20, f20, h20⟩ := hd 1 (by decide)
        replace f20 : x 1 = .bool true := f20
        clear h20
        rw [f20] at e20
        have e23 : A.tmps[23]? = some (x 4) := hA2 4 (by omega)
        obtain ⟨k23, f23, h23⟩ := hd 4 (by decide)
        replace f23 : x 4 = .agg #[.int .u8 1, .int .i64 9223372036854775807, .string ⟨#[]⟩] := f23
        clear h23
        rw [f23] at e23
        have e24 : A.tmps[24]? = some (x 5) := hA2 5 (by omega)
        obtain ⟨k24, f24, h24⟩ := hd 5 (by decide)
        replace f24 : x 5 = .agg #[.int .u8 1, .int .i64 1, .string ⟨#[]⟩] := f24
        clear h24
        rw [f24] at e24
        clear hA2 hX hd
        go_simp
        refine (two_any 6 ((1, 9223372036854775807, ⟨#[]⟩) : Val) ((1, 1, ⟨#[]⟩) : Val) _).mono ?_
        rintro e w6 ⟨g6, rfl, hi6, hb6⟩
        exact hK' _ _ (hK _ _ ⟨kk4 g6 0 0 0, rfl, hi6⟩ hb6)
      · obtain rfl := Option.some.inj (ho.symm.trans rfl)
        clear ho
        have e20 : A.tmps[20]? = some (x 1) := hA2 1 (by omega)
        obtain ⟨k20, f20, h20⟩ := hd 1 (by decide)
        replace f20 : x 1 = .bool true := f20
        clear h20
        rw [f20] at e20
        have e25 : A.tmps[25]? = some (x 6) := hA2 6 (by omega)
        obtain ⟨k25, f25, h25⟩ := hd 6 (by decide)
        replace f25 : x 6 = .agg #[.int .u8 6, .int .u8 0, .int .i64 0, .string ⟨#[]⟩, .string ⟨#[]⟩, .string ⟨#[]⟩, .int .i64 0, .slice (some ⟨k25 0, 0, none⟩) 2 2] := f25
        replace h25 : prP (.kids [leafX ((1, 9223372036854775807, ⟨#[]⟩) : Val), leafX ((1, 1, ⟨#[]⟩) : Val)]) k25 W := h25
        rw [f25] at e25
        clear hA2 hX hd
        go_simp
        refine (ev_2 6 (by omega) ((1, 9223372036854775807, ⟨#[]⟩) : Val) ((1, 1, ⟨#[]⟩) : Val) (vk_n (9223372036854775807) (by omega)) (vk_n (1) (by omega)) (k25 0) W h25 (((0, 0, ⟨#[]⟩) : Val), 152) (by rfl)).mono ?_
        rintro e w6 ⟨rfl, hb6⟩
        exact hK' _ _ (hK _ _ ⟨fun _ => 0, rfl, trivial⟩ hb6)
      · obtain rfl := Option.some.inj (ho.symm.trans rfl)
        clear ho
        have e20 : A.tmps[20]? = some (x 1) := hA2 1 (by omega)
        obtain ⟨k20, f20, h20⟩ := hd 1 (by decide)
        replace f20 : x 1 = .bool true := f20
        clear h20
        rw [f20] at e20
        have e26 : A.tmps[26]? = some (x 7) := hA2 7 (by omega)
        obtain ⟨k26, f26, h26⟩ := hd 7 (by decide)
        replace f26 : x 7 = .tuple #[.agg #[.int .u8 0, .int .i64 0, .string ⟨#[]⟩], .int .i64 152] := f26
        clear h26
        rw [f26] at e26
        clear hA2 hX hd
        go_simp
        exact hK' _ _ (hK _ _ ⟨fun _ => 0, rfl, trivial⟩ (Below.refl _ _))
      · obtain rfl := Option.some.inj (ho.symm.trans rfl)
        clear ho
        have e20 : A.tmps[20]? = some (x 1) := hA2 1 (by omega)
        obtain ⟨k20, f20, h20⟩ := hd 1 (by decide)
        replace f20 : x 1 = .bool true := f20
        clear h20
        rw [f20] at e20
        have e26 : A.tmps[26]? = some (x 7) := hA2 7 (by omega)
        obtain ⟨k26, f26, h26⟩ := hd 7 (by decide)
        replace f26 : x 7 = .tuple #[.agg #[.int .u8 0, .int .i64 0, .string ⟨#[]⟩], .int .i64 152] := f26
        clear h26
        rw [f26] at e26
        clear hA2 hX hd
        go_simp
        exact hK' _ _ (hK _ _ ⟨fun _ => 0, rfl, trivial⟩ (Below.refl _ _))
      · obtain rfl := Option.some.inj (ho.symm.trans rfl)
        clear ho
        have e20 : A.tmps[20]? = some (x 1) := hA2 1 (by omega)
        obtain ⟨k20, f20, h20⟩ := hd 1 (by decide)
        replace f20 : x 1 = .bool true := f20
        clear h20
        rw [f20] at e20
        have e22 : A.tmps[22]? = some (x 3) := hA2 3 (by omega)
        obtain ⟨k22, f22, h22⟩ := hd 3 (by decide)
        replace f22 : x 3 = .func (.func 32) #[] #[.pointer (some ⟨k22 0, 0, none⟩), .pointer (some ⟨k22 1, 0, none⟩)] := f22
        replace h22 : prP (.is ((0, 0, ⟨#[]⟩) : Val) 152) k22 W := h22
        rw [f22] at e22
        have e27 : A.tmps[27]? = some (x 8) := hA2 8 (by omega)
        obtain ⟨k27, f27, h27⟩ := hd 8 (by decide)
        replace f27 : x 8 = .agg #[.int .u8 0, .int .i64 0, .string ⟨#[]⟩] := f27
        clear h27
        rw [f27] at e27
        have e28 : A.tmps[28]? = some (x 9) := hA2 9 (by omega)
        obtain ⟨k28, f28, h28⟩ := hd 9 (by decide)
        replace f28 : x 9 = .int .i64 152 := f28
        clear h28
        rw [f28] at e28
        clear hA2 hX hd
        go_simp
        refine (isf_yes ((0, 0, ⟨#[]⟩) : Val) 152 (k22 0) (k22 1) W h22).mono ?_
        rintro e w6 ⟨rfl, hb6⟩
        exact hK' _ _ (hK _ _ ⟨fun _ => 0, rfl, trivial⟩ hb6)
      · obtain rfl := Option.some.inj (ho.symm.trans rfl)
        clear ho
        have e20 : A.tmps[20]? = some (x 1) := hA2 1 (by omega)
        obtain ⟨k20, f20, h20⟩ := hd 1 (by decide)
        replace f20 : x 1 = .bool true := f20
        clear h20
        rw [f20] at e20
        have e29 : A.tmps[29]? = some (x 10) := hA2 10 (by omega)
        obtain ⟨k29, f29, h29⟩ := hd 10 (by decide)
        replace f29 : x 10 = .bool true := f29
        clear h29
        rw [f29] at e29
        clear hA2 hX hd
        go_simp
        exact hK' _ _ (hK _ _ ⟨fun _ => 0, rfl, trivial⟩ (Below.refl _ _))
      · obtain rfl := Option.some.inj (ho.symm.trans rfl)
        clear ho
        have e30 : A.tmps[30]? = some (x 11) := hA2 11 (by omega)
        obtain ⟨k30, f30, h30⟩ := hd 11 (by decide)
        replace f30 : x 11 = .bool true := f30
        clear h30
        rw [f30] at e30
        clear hA2 hX hd
        go_simp
        exact hK' _ _ (hK _ _ ⟨fun _ => 0, rfl, trivial⟩ (Below.refl _ _))
      · obtain rfl := Option.some.inj (ho.symm.trans rfl)
        clear ho
        have e1 : A.tmps[1]? = some (.pointer (some ⟨w.heap.size, 0, none⟩)) := (hX 1 (by decide)).trans rfl
        have e31 : A.tmps[31]? = some (x 12) := hA2 12 (by omega)
        obtain ⟨k31, f31, h31⟩ := hd 12 (by decide)
        replace f31 : x 12 = .bool true := f31
        clear h31
        rw [f31] at e31
        clear hA2 hX hd
        have c0 := hs.1.cell 0
        have c1 := hs.1.cell 1
        have c2 := hs.1.cell 2
        go_simp
        exact hK' _ _ (hK _ _ ⟨fun _ => 0, rfl, trivial⟩ (Below.refl _ _))
      · obtain rfl := Option.some.inj (ho.symm.trans rfl)
        clear ho
        have e31 : A.tmps[31]? = some (x 12) := hA2 12 (by omega)
        obtain ⟨k31, f31, h31⟩ := hd 12 (by decide)
        replace f31 : x 12 = .bool true := f31
        clear h31
        rw [f31] at e31
        have e32 : A.tmps[32]? = some (x 13) := hA2 13 (by omega)
        obtain ⟨k32, f32, h32⟩ := hd 13 (by decide)
        replace f32 : x 13 = .agg #[.int .u8 0, .int .i64 0, .string ⟨#[]⟩] := f32
        clear h32
        rw [f32] at e32
        clear hA2 hX hd
        go_simp
        refine (mkis_any ((0, 0, ⟨#[]⟩) : Val) 152 _).mono ?_
        rintro e w6 ⟨g6, h6, rfl, hi6, hb6⟩
        exact hK' _ _ (hK _ _ ⟨kk4 g6 h6 0 0, rfl, hi6⟩ hb6)
      · obtain rfl := Option.some.inj (ho.symm.trans rfl)
        clear ho
        have e31 : A.tmps[31]? = some (x 12) := hA2 12 (by omega)
        obtain ⟨k31, f31, h31⟩ := hd 12 (by decide)
        replace f31 : x 12 = .bool true := f31
        clear h31
        rw [f31] at e31
        clear hA2 hX hd
        go_simp
        refine (mkNumber15 _ _).mono ?_
        rintro e w6 ⟨rfl, hb6⟩
        exact hK' _ _ (hK _ _ ⟨fun _ => 0, rfl, trivial⟩ hb6)
      · obtain rfl := Option.some.inj (ho.symm.trans rfl)
        clear ho
        have e31 : A.tmps[31]? = some (x 12) := hA2 12 (by omega)
        obtain ⟨k31, f31, h31⟩ := hd 12 (by decide)
        replace f31 : x 12 = .bool true := f31
        clear h31
        rw [f31] at e31
        have e34 : A.tmps[34]? = some (x 15) := hA2 15 (by omega)
        obtain ⟨k34, f34, h34⟩ := hd 15 (by decide)
        replace f34 : x 15 = .agg #[.int .u8 1, .int .i64 (-9223372036854775808), .string ⟨#[]⟩] := f34
        clear h34
        rw [f34] at e34
        clear hA2 hX hd
        go_simp
        refine (with_any ((1, (-9223372036854775808), ⟨#[]⟩) : Val) _).mono ?_
        rintro e w6 ⟨rfl, hb6⟩
        exact hK' _ _ (hK _ _ ⟨fun _ => 0, rfl, trivial⟩ hb6)
      · obtain rfl := Option.some.inj (ho.symm.trans rfl)
        clear ho
        have e31 : A.tmps[31]? = some (x 12) := hA2 12 (by omega)
        obtain ⟨k31, f31, h31⟩ := hd 12 (by decide)
        replace f31 : x 12 = .bool true := f31
        clear h31
        rw [f31] at e31
        have e35 : A.tmps[35]? = some (x 16) := hA2 16 (by omega)
        obtain ⟨k35, f35, h35⟩ := hd 16 (by decide)
        replace f35 : x 16 = .agg #[.int .u8 1, .int .u8 1, .int .i64 (-9223372036854775808), .string ⟨#[]⟩, .string ⟨#[]⟩, .string ⟨#[]⟩, .int .i64 0, .slice none 0 0] := f35
        clear h35
        rw [f35] at e35
        clear hA2 hX hd
        go_simp
        exact hK' _ _ (hK _ _ ⟨kk4 W.heap.size 0 0 0, rfl, kids_1 (x := leafX ((1, (-9223372036854775808), ⟨#[]⟩) : Val)) (Blk.new _ _ _)⟩ one_alloc)
      · obtain rfl := Option.some.inj (ho.symm.trans rfl)
        clear ho
        have e31 : A.tmps[31]? = some (x 12) := hA2 12 (by omega)
        obtain ⟨k31, f31, h31⟩ := hd 12 (by decide)
        replace f31 : x 12 = .bool true := f31
        clear h31
        rw [f31] at e31
        have e36 : A.tmps[36]? = some (x 17) := hA2 17 (by omega)
        obtain ⟨k36, f36, h36⟩ := hd 17 (by decide)
        replace f36 : x 17 = .slice (some ⟨k36 0, 0, none⟩) 1 1 := f36
        replace h36 : prP (.kids [leafX ((1, (-9223372036854775808), ⟨#[]⟩) : Val)]) k36 W := h36
        rw [f36] at e36
        clear hA2 hX hd
        go_simp
        refine (mkof_any 3 (some ⟨k36 0, 0, none⟩) 1 1 _).mono ?_
        rintro e w6 ⟨rfl, hb6⟩
        exact hK' _ _ (hK _ _ ⟨k36, rfl, prp_step h36 hb6⟩ hb6)
      · obtain rfl := Option.some.inj (ho.symm.trans rfl)
        clear ho
        have e31 : A.tmps[31]? = some (x 12) := hA2 12 (by omega)
        obtain ⟨k31, f31, h31⟩ := hd 12 (by decide)
        replace f31 : x 12 = .bool true := f31
        clear h31
        rw [f31] at e31
        have e37 : A.tmps[37]? = some (x 18) := hA2 18 (by omega)
        obtain ⟨k37, f37, h37⟩ := hd 18 (by decide)
        replace f37 : x 18 = .agg #[.int .u8 3, .int .u8 0, .int .i64 0, .string ⟨#[]⟩, .string ⟨#[]⟩, .string ⟨#[]⟩, .int .i64 0, .slice (some ⟨k37 0, 0, none⟩) 1 1] := f37
        replace h37 : prP (.kids [leafX ((1, (-9223372036854775808), ⟨#[]⟩) : Val)]) k37 W := h37
        rw [f37] at e37
        clear hA2 hX hd
        go_simp
        refine (ev_1 3 (by omega) ((1, (-9223372036854775808), ⟨#[]⟩) : Val) (vk_n (-9223372036854775808) (by omega)) (k37 0) W h37 (((0, 0, ⟨#[]⟩) : Val), 152) (by rfl)).mono ?_
        rintro e w6 ⟨rfl, hb6⟩
        exact hK' _ _ (hK _ _ ⟨fun _ => 0, rfl, trivial⟩ hb6)
      · obtain rfl := Option.some.inj (ho.symm.trans rfl)
        clear ho
        have e31 : A.tmps[31]? = some (x 12) := hA2 12 (by omega)
        obtain ⟨k31, f31, h31⟩ := hd 12 (by decide)
        replace f31 : x 12 = .bool true := f31
        clear h31
        rw [f31] at e31
        have e38 : A.tmps[38]? = some (x 19) := hA2 19 (by omega)
        obtain ⟨k38, f38, h38⟩ := hd 19 (by decide)
        replace f38 : x 19 = .tuple #[.agg #[.int .u8 0, .int .i64 0, .string ⟨#[]⟩], .int .i64 152] := f38
        clear h38
        rw [f38] at e38
        clear hA2 hX hd
        go_simp
        exact hK' _ _ (hK _ _ ⟨fun _ => 0, rfl, trivial⟩ (Below.refl _ _))
      · obtain rfl := Option.some.inj (ho.symm.trans rfl)
        clear ho
        have e31 : A.tmps[31]? = some (x 12) := hA2 12 (by omega)
        obtain ⟨k31, f31, h31⟩ := hd 12 (by decide)
        replace f31 : x 12 = .bool true := f31
        clear h31
        rw [f31] at e31
        have e38 : A.tmps[38]? = some (x 19) := hA2 19 (by omega)
        obtain ⟨k38, f38, h38⟩ := hd 19 (by decide)
        replace f38 : x 19 = .tuple #[.agg #[.int .u8 0, .int .i64 0, .string ⟨#[]⟩], .int .i64 152] := f38
        clear h38
        rw [f38] at e38
        clear hA2 hX hd
        go_simp
        exact hK' _ _ (hK _ _ ⟨fun _ => 0, rfl, trivial⟩ (Below.refl _ _))
      · obtain rfl := Option.some.inj (ho.symm.trans rfl)
        clear ho
        have e31 : A.tmps[31]? = some (x 12) := hA2 12 (by omega)
        obtain ⟨k31, f31, h31⟩ := hd 12 (by decide)
        replace f31 : x 12 = .bool true := f31
        clear h31
        rw [f31] at e31
        have e33 : A.tmps[33]? = some (x 14) := hA2 14 (by omega)
        obtain ⟨k33, f33, h33⟩ := hd 14 (by decide)
        replace f33 : x 14 = .func (.func 32) #[] #[.pointer (some ⟨k33 0, 0, none⟩), .pointer (some ⟨k33 1, 0, none⟩)] := f33
        replace h33 : prP (.is ((0, 0, ⟨#[]⟩) : Val) 152) k33 W := h33
        rw [f33] at e33
        have e39 : A.tmps[39]? = some (x 20) := hA2 20 (by omega)
        obtain ⟨k39, f39, h39⟩ := hd 20 (by decide)
        replace f39 : x 20 = .agg #[.int .u8 0, .int .i64 0, .string ⟨#[]⟩] := f39
        clear h39
        rw [f39] at e39
        have e40 : A.tmps[40]? = some (x 21) := hA2 21 (by omega)
        obtain ⟨k40, f40, h40⟩ := hd 21 (by decide)
        replace f40 : x 21 = .int .i64 152 := f40
        clear h40
        rw [f40] at e40
        clear hA2 hX hd
        go_simp
        refine (isf_yes ((0, 0, ⟨#[]⟩) : Val) 152 (k33 0) (k33 1) W h33).mono ?_
        rintro e w6 ⟨rfl, hb6⟩
        exact hK' _ _ (hK _ _ ⟨fun _ => 0, rfl, trivial⟩ hb6)
      · obtain rfl := Option.some.inj (ho.symm.trans rfl)
        clear ho
        have e31 : A.tmps[31]? = some (x 12) := hA2 12 (by omega)
        obtain ⟨k31, f31, h31⟩ := hd 12 (by decide)
        replace f31 : x 12 = .bool true := f31
        clear h31
        rw [f31] at e31
        have e41 : A.tmps[41]? = some (x 22) := hA2 22 (by omega)
        obtain ⟨k41, f41, h41⟩ := hd 22 (by decide)
        replace f41 : x 22 = .bool true := f41
        clear h41
        rw [f41] at e41
        clear hA2 hX hd
        go_simp
        exact hK' _ _ (hK _ _ ⟨fun _ => 0, rfl, trivial⟩ (Below.refl _ _))
      · obtain rfl := Option.some.inj (ho.symm.trans rfl)
        clear ho
        have e42 : A.tmps[42]? = some (x 23) := hA2 23 (by omega)
        obtain ⟨k42, f42, h42⟩ := hd 23 (by decide)
        replace f42 : x 23 = .bool true := f42
        clear h42
        rw [f42] at e42
        clear hA2 hX hd
        go_simp
        exact hK' _ _ (hK _ _ ⟨fun _ => 0, rfl, trivial⟩ (Below.refl _ _))
    by_cases hc1 : i < 50
    · obtain rfl | rfl | rfl | rfl | rfl | rfl | rfl | rfl | rfl | rfl | rfl | rfl | rfl | rfl | rfl | rfl | rfl | rfl | rfl | rfl | rfl | rfl | rfl | rfl | rfl : i = 25 ∨ i = 26 ∨ i = 27 ∨ i = 28 ∨ i = 29 ∨ i = 30 ∨ i = 31 ∨ i = 32 ∨ i = 33 ∨ i = 34 ∨ i = 35 ∨ i = 36 ∨ i = 37 ∨ i = 38 ∨ i = 39 ∨ i = 40 ∨ i = 41 ∨ i = 42 ∨ i = 43 ∨ i = 44 ∨ i = 45 ∨ i = 46 ∨ i = 47 ∨ i = 48 ∨ i = 49 := by omega
      · obtain rfl := Option.some.inj (ho.symm.trans rfl)
        clear ho
        have e1 : A.tmps[1]? = some (.pointer (some ⟨w.heap.size, 0, none⟩)) := (hX 1 (by decide)).trans rfl
        have e43 : A.tmps[43]? = some (x 24) := hA2 24 (by omega)
        obtain ⟨k43, f43, h43⟩ := hd 24 (by decide)
        replace f43 : x 24 = .bool true := f43
        clear h43
        rw [f43] at e43
        clear hA2 hX hd
        have c0 := hs.1.cell 0
        have c1 := hs.1.cell 1
        have c2 := hs.1.cell 2
        go_simp
        exact hK' _ _ (hK _ _ ⟨fun _ => 0, rfl, trivial⟩ (Below.refl _ _))
      · obtain rfl := Option.some.inj (ho.symm.trans rfl)
        clear ho
        have e43 : A.tmps[43]? = some (x 24) := hA2 24 (by omega)
        obtain ⟨k43, f43, h43⟩ := hd 24 (by decide)
        replace f43 : x 24 = .bool true := f43
        clear h43
        rw [f43] at e43
        have e44 : A.tmps[44]? = some (x 25) := hA2 25 (by omega)
        obtain ⟨k44, f44, h44⟩ := hd 25 (by decide)
        replace f44 : x 25 = .agg #[.int .u8 0, .int .i64 0, .string ⟨#[]⟩] := f44
        clear h44
        rw [f44] at e44
        clear hA2 hX hd
        go_simp
        refine (mkis_any ((0, 0, ⟨#[]⟩) : Val) 0 _).mono ?_
        rintro e w6 ⟨g6, h6, rfl, hi6, hb6⟩
        exact hK' _ _ (hK _ _ ⟨kk4 g6 h6 0 0, rfl, hi6⟩ hb6)
      · obtain rfl := Option.some.inj (ho.symm.trans rfl)
        clear ho
        have e43 : A.tmps[43]? = some (x 24) := hA2 24 (by omega)
        obtain ⟨k43, f43, h43⟩ := hd 24 (by decide)
        replace f43 : x 24 = .bool true := f43
        clear h43
        rw [f43] at e43
        clear hA2 hX hd
        go_simp
        refine (mkNumber15 _ _).mono ?_
        rintro e w6 ⟨rfl, hb6⟩
        exact hK' _ _ (hK _ _ ⟨fun _ => 0, rfl, trivial⟩ hb6)
      · obtain rfl := Option.some.inj (ho.symm.trans rfl)
        clear ho
        have e43 : A.tmps[43]? = some (x 24) := hA2 24 (by omega)
        obtain ⟨k43, f43, h43⟩ := hd 24 (by decide)
        replace f43 : x 24 = .bool true := f43
        clear h43
        rw [f43] at e43
        clear hA2 hX hd
        go_simp
        refine (mkNumber15 _ _).mono ?_
        rintro e w6 ⟨rfl, hb6⟩
        exact hK' _ _ (hK _ _ ⟨fun _ => 0, rfl, trivial⟩ hb6)
      · obtain rfl := Option.some.inj (ho.symm.trans rfl)
        clear ho
        have e43 : A.tmps[43]? = some (x 24) := hA2 24 (by omega)
        obtain ⟨k43, f43, h43⟩ := hd 24 (by decide)
        replace f43 : x 24 = .bool true := f43
        clear h43
        rw [f43] at e43
        have e46 : A.tmps[46]? = some (x 27) := hA2 27 (by omega)
        obtain ⟨k46, f46, h46⟩ := hd 27 (by decide)
        replace f46 : x 27 = .agg #[.int .u8 1, .int .i64 7, .string ⟨#[]⟩] := f46
        clear h46
        rw [f46] at e46
        have e47 : A.tmps[47]? = some (x 28) := hA2 28 (by omega)
        obtain ⟨k47, f47, h47⟩ := hd 28 (by decide)
        replace f47 : x 28 = .agg #[.int .u8 1, .int .i64 0, .string ⟨#[]⟩] := f47
        clear h47
        rw [f47] at e47
        clear hA2 hX hd
        go_simp
        refine (two_any 9 ((1, 7, ⟨#[]⟩) : Val) ((1, 0, ⟨#[]⟩) : Val) _).mono ?_
        rintro e w6 ⟨g6, rfl, hi6, hb6⟩
        exact hK' _ _ (hK _ _ ⟨kk4 g6 0 0 0, rfl, hi6⟩ hb6)
      · obtain rfl := Option.some.inj (ho.symm.trans rfl)
        clear ho
        have e43 : A.tmps[43]? = some (x 24) := hA2 24 (by omega)
        obtain ⟨k43, f43, h43⟩ := hd 24 (by decide)
        replace f43 : x 24 = .bool true := f43
        clear h43
        rw [f43] at e43
        have e48 : A.tmps[48]? = some (x 29) := hA2 29 (by omega)
        obtain ⟨k48, f48, h48⟩ := hd 29 (by decide)
        replace f48 : x 29 = .agg #[.int .u8 9, .int .u8 0, .int .i64 0, .string ⟨#[]⟩, .string ⟨#[]⟩, .string ⟨#[]⟩, .int .i64 0, .slice (some ⟨k48 0, 0, none⟩) 2 2] := f48
        replace h48 : prP (.kids [leafX ((1, 7, ⟨#[]⟩) : Val), leafX ((1, 0, ⟨#[]⟩) : Val)]) k48 W := h48
        rw [f48] at e48
        clear hA2 hX hd
        go_simp
        refine (ev_2 9 (by omega) ((1, 7, ⟨#[]⟩) : Val) ((1, 0, ⟨#[]⟩) : Val) (vk_n (7) (by omega)) (vk_n (0) (by omega)) (k48 0) W h48 (((0, 0, ⟨#[]⟩) : Val), 0) (by rfl)).mono ?_
        rintro e w6 ⟨rfl, hb6⟩
        exact hK' _ _ (hK _ _ ⟨fun _ => 0, rfl, trivial⟩ hb6)
      · obtain rfl := Option.some.inj (ho.symm.trans rfl)
        clear ho
        have e43 : A.tmps[43]? = some (x 24) := hA2 24 (by omega)
        obtain ⟨k43, f43, h43⟩ := hd 24 (by decide)
        replace f43 : x 24 = .bool true := f43
        clear h43
        rw [f43] at e43
        have e49 : A.tmps[49]? = some (x 30) := hA2 30 (by omega)
        obtain ⟨k49, f49, h49⟩ := hd 30 (by decide)
        replace f49 : x 30 = .tuple #[.agg #[.int .u8 0, .int .i64 0, .string ⟨#[]⟩], .int .i64 0] := f49
        clear h49
        rw [f49] at e49
        clear hA2 hX hd
        go_simp
        exact hK' _ _ (hK _ _ ⟨fun _ => 0, rfl, trivial⟩ (Below.refl _ _))
      · obtain rfl := Option.some.inj (ho.symm.trans rfl)
        clear ho
        have e43 : A.tmps[43]? = some (x 24) := hA2 24 (by omega)
        obtain ⟨k43, f43, h43⟩ := hd 24 (by decide)
        replace f43 : x 24 = .bool true := f43
        clear h43
        rw [f43] at e43
        have e49 : A.tmps[49]? = some (x 30) := hA2 30 (by omega)
        obtain ⟨k49, f49, h49⟩ := hd 30 (by decide)
        replace f49 : x 30 = .tuple #[.agg #[.int .u8 0, .int .i64 0, .string ⟨#[]⟩], .int .i64 0] := f49
        clear h49
        rw [f49] at e49
        clear hA2 hX hd
        go_simp
        exact hK' _ _ (hK _ _ ⟨fun _ => 0, rfl, trivial⟩ (Below.refl _ _))
      · obtain rfl := Option.some.inj (ho.symm.trans rfl)
        clear ho
        have e43 : A.tmps[43]? = some (x 24) := hA2 24 (by omega)
        obtain ⟨k43, f43, h43⟩ := hd 24 (by decide)
        replace f43 : x 24 = .bool true := f43
        clear h43
        rw [f43] at e43
        have e45 : A.tmps[45]? = some (x 26) := hA2 26 (by omega)
        obtain ⟨k45, f45, h45⟩ := hd 26 (by decide)
        replace f45 : x 26 = .func (.func 32) #[] #[.pointer (some ⟨k45 0, 0, none⟩), .pointer (some ⟨k45 1, 0, none⟩)] := f45
        replace h45 : prP (.is ((0, 0, ⟨#[]⟩) : Val) 0) k45 W := h45
        rw [f45] at e45
        have e50 : A.tmps[50]? = some (x 31) := hA2 31 (by omega)
        obtain ⟨k50, f50, h50⟩ := hd 31 (by decide)
        replace f50 : x 31 = .agg #[.int .u8 0, .int .i64 0, .string ⟨#[]⟩] := f50
        clear h50
        rw [f50] at e50
        have e51 : A.tmps[51]? = some (x 32) := hA2 32 (by omega)
        obtain ⟨k51, f51, h51⟩ := hd 32 (by decide)
        replace f51 : x 32 = .int .i64 0 := f51
        clear h51
        rw [f51] at e51
        clear hA2 hX hd
        go_simp
        refine (isf_yes ((0, 0, ⟨#[]⟩) : Val) 0 (k45 0) (k45 1) W h45).mono ?_
        rintro e w6 ⟨rfl, hb6⟩
        exact hK' _ _ (hK _ _ ⟨fun _ => 0, rfl, trivial⟩ hb6)
      · obtain rfl := Option.some.inj (ho.symm.trans rfl)
        clear ho
        have e43 : A.tmps[43]? = some (x 24) := hA2 24 (by omega)
        obtain ⟨k43, f43, h43⟩ := hd 24 (by decide)
        replace f43 : x 24 = .bool true := f43
        clear h43
        rw [f43] at e43
        have e52 : A.tmps[52]? = some (x 33) := hA2 33 (by omega)
        obtain ⟨k52, f52, h52⟩ := hd 33 (by decide)
        replace f52 : x 33 = .bool true := f52
        clear h52
        rw [f52] at e52
        clear hA2 hX hd
        go_simp
        exact hK' _ _ (hK _ _ ⟨fun _ => 0, rfl, trivial⟩ (Below.refl _ _))
      · obtain rfl := Option.some.inj (ho.symm.trans rfl)
        clear ho
        have e53 : A.tmps[53]? = some (x 34) := hA2 34 (by omega)
        obtain ⟨k53, f53, h53⟩ := hd 34 (by decide)
        replace f53 : x 34 = .bool true := f53
        clear h53
        rw [f53] at e53
        clear hA2 hX hd
        go_simp
        exact hK' _ _ (hK _ _ ⟨fun _ => 0, rfl, trivial⟩ (Below.refl _ _))
      · obtain rfl := Option.some.inj (ho.symm.trans rfl)
        clear ho
        have e54 : A.tmps[54]? = some (x 35) := hA2 35 (by omega)
        obtain ⟨k54, f54, h54⟩ := hd 35 (by decide)
        replace f54 : x 35 = .bool true := f54
        clear h54
        rw [f54] at e54
        clear hA2 hX hd
        go_simp
        refine (mkNumber15 _ _).mono ?_
        rintro e w6 ⟨rfl, hb6⟩
        exact hK' _ _ (hK _ _ ⟨fun _ => 0, rfl, trivial⟩ hb6)
      · obtain rfl := Option.some.inj (ho.symm.trans rfl)
        clear ho
        have e54 : A.tmps[54]? = some (x 35) := hA2 35 (by omega)
        obtain ⟨k54, f54, h54⟩ := hd 35 (by decide)
        replace f54 : x 35 = .bool true := f54
        clear h54
        rw [f54] at e54
        have e55 : A.tmps[55]? = some (x 36) := hA2 36 (by omega)
        obtain ⟨k55, f55, h55⟩ := hd 36 (by decide)
        replace f55 : x 36 = .agg #[.int .u8 1, .int .i64 (-3), .string ⟨#[]⟩] := f55
        clear h55
        rw [f55] at e55
        clear hA2 hX hd
        go_simp
        refine (mkis_any ((1, (-3), ⟨#[]⟩) : Val) 0 _).mono ?_
        rintro e w6 ⟨g6, h6, rfl, hi6, hb6⟩
        exact hK' _ _ (hK _ _ ⟨kk4 g6 h6 0 0, rfl, hi6⟩ hb6)
      · obtain rfl := Option.some.inj (ho.symm.trans rfl)
        clear ho
        have e54 : A.tmps[54]? = some (x 35) := hA2 35 (by omega)
        obtain ⟨k54, f54, h54⟩ := hd 35 (by decide)
        replace f54 : x 35 = .bool true := f54
        clear h54
        rw [f54] at e54
        clear hA2 hX hd
        go_simp
        refine (mkNumber15 _ _).mono ?_
        rintro e w6 ⟨rfl, hb6⟩
        exact hK' _ _ (hK _ _ ⟨fun _ => 0, rfl, trivial⟩ hb6)
      · obtain rfl := Option.some.inj (ho.symm.trans rfl)
        clear ho
        have e54 : A.tmps[54]? = some (x 35) := hA2 35 (by omega)
        obtain ⟨k54, f54, h54⟩ := hd 35 (by decide)
        replace f54 : x 35 = .bool true := f54
        clear h54
        rw [f54] at e54
        clear hA2 hX hd
        go_simp
        refine (mkNumber15 _ _).mono ?_
        rintro e w6 ⟨rfl, hb6⟩
        exact hK' _ _ (hK _ _ ⟨fun _ => 0, rfl, trivial⟩ hb6)
      · obtain rfl := Option.some.inj (ho.symm.trans rfl)
        clear ho
        have e54 : A.tmps[54]? = some (x 35) := hA2 35 (by omega)
        obtain ⟨k54, f54, h54⟩ := hd 35 (by decide)
        replace f54 : x 35 = .bool true := f54
        clear h54
        rw [f54] at e54
        have e57 : A.tmps[57]? = some (x 38) := hA2 38 (by omega)
        obtain ⟨k57, f57, h57⟩ := hd 38 (by decide)
        replace f57 : x 38 = .agg #[.int .u8 1, .int .i64 (-7), .string ⟨#[]⟩] := f57
        clear h57
        rw [f57] at e57
        have e58 : A.tmps[58]? = some (x 39) := hA2 39 (by omega)
        obtain ⟨k58, f58, h58⟩ := hd 39 (by decide)
        replace f58 : x 39 = .agg #[.int .u8 1, .int .i64 2, .string ⟨#[]⟩] := f58
        clear h58
        rw [f58] at e58
        clear hA2 hX hd
        go_simp
        refine (two_any 9 ((1, (-7), ⟨#[]⟩) : Val) ((1, 2, ⟨#[]⟩) : Val) _).mono ?_
        rintro e w6 ⟨g6, rfl, hi6, hb6⟩
        exact hK' _ _ (hK _ _ ⟨kk4 g6 0 0 0, rfl, hi6⟩ hb6)
      · obtain rfl := Option.some.inj (ho.symm.trans rfl)
        clear ho
        have e54 : A.tmps[54]? = some (x 35) := hA2 35 (by omega)
        obtain ⟨k54, f54, h54⟩ := hd 35 (by decide)
        replace f54 : x 35 = .bool true := f54
        clear h54
        rw [f54] at e54
        have e59 : A.tmps[59]? = some (x 40) := hA2 40 (by omega)
        obtain ⟨k59, f59, h59⟩ := hd 40 (by decide)
        replace f59 : x 40 = .agg #[.int .u8 9, .int .u8 0, .int .i64 0, .string ⟨#[]⟩, .string ⟨#[]⟩, .string ⟨#[]⟩, .int .i64 0, .slice (some ⟨k59 0, 0, none⟩) 2 2] := f59
        replace h59 : prP (.kids [leafX ((1, (-7), ⟨#[]⟩) : Val), leafX ((1, 2, ⟨#[]⟩) : Val)]) k59 W := h59
        rw [f59] at e59
        clear hA2 hX hd
        go_simp
        refine (ev_2 9 (by omega) ((1, (-7), ⟨#[]⟩) : Val) ((1, 2, ⟨#[]⟩) : Val) (vk_n (-7) (by omega)) (vk_n (2) (by omega)) (k59 0) W h59 (((1, (-3), ⟨#[]⟩) : Val), 0) (by rfl)).mono ?_
        rintro e w6 ⟨rfl, hb6⟩
        exact hK' _ _ (hK _ _ ⟨fun _ => 0, rfl, trivial⟩ hb6)
      · obtain rfl := Option.some.inj (ho.symm.trans rfl)
        clear ho
        have e54 : A.tmps[54]? = some (x 35) := hA2 35 (by omega)
        obtain ⟨k54, f54, h54⟩ := hd 35 (by decide)
        replace f54 : x 35 = .bool true := f54
        clear h54
        rw [f54] at e54
        have e60 : A.tmps[60]? = some (x 41) := hA2 41 (by omega)
        obtain ⟨k60, f60, h60⟩ := hd 41 (by decide)
        replace f60 : x 41 = .tuple #[.agg #[.int .u8 1, .int .i64 (-3), .string ⟨#[]⟩], .int .i64 0] := f60
        clear h60
        rw [f60] at e60
        clear hA2 hX hd
        go_simp
        exact hK' _ _ (hK _ _ ⟨fun _ => 0, rfl, trivial⟩ (Below.refl _ _))
      · obtain rfl := Option.some.inj (ho.symm.trans rfl)
        clear ho
        have e54 : A.tmps[54]? = some (x 35) := hA2 35 (by omega)
        obtain ⟨k54, f54, h54⟩ := hd 35 (by decide)
        replace f54 : x 35 = .bool true := f54
        clear h54
        rw [f54] at e54
        have e60 : A.tmps[60]? = some (x 41) := hA2 41 (by omega)
        obtain ⟨k60, f60, h60⟩ := hd 41 (by decide)
        replace f60 : x 41 = .tuple #[.agg #[.int .u8 1, .int .i64 (-3), .string ⟨#[]⟩], .int .i64 0] := f60
        clear h60
        rw [f60] at e60
        clear hA2 hX hd
        go_simp
        exact hK' _ _ (hK _ _ ⟨fun _ => 0, rfl, trivial⟩ (Below.refl _ _))
      · obtain rfl := Option.some.inj (ho.symm.trans rfl)
        clear ho
        have e54 : A.tmps[54]? = some (x 35) := hA2 35 (by omega)
        obtain ⟨k54, f54, h54⟩ := hd 35 (by decide)
        replace f54 : x 35 = .bool true := f54
        clear h54
        rw [f54] at e54
        have e56 : A.tmps[56]? = some (x 37) := hA2 37 (by omega)
        obtain ⟨k56, f56, h56⟩ := hd 37 (by decide)
        replace f56 : x 37 = .func (.func 32) #[] #[.pointer (some ⟨k56 0, 0, none⟩), .pointer (some ⟨k56 1, 0, none⟩)] := f56
        replace h56 : prP (.is ((1, (-3), ⟨#[]⟩) : Val) 0) k56 W := h56
        rw [f56] at e56
        have e61 : A.tmps[61]? = some (x 42) := hA2 42 (by omega)
        obtain ⟨k61, f61, h61⟩ := hd 42 (by decide)
        replace f61 : x 42 = .agg #[.int .u8 1, .int .i64 (-3), .string ⟨#[]⟩] := f61
        clear h61
        rw [f61] at e61
        have e62 : A.tmps[62]? = some (x 43) := hA2 43 (by omega)
        obtain ⟨k62, f62, h62⟩ := hd 43 (by decide)
        replace f62 : x 43 = .int .i64 0 := f62
        clear h62
        rw [f62] at e62
        clear hA2 hX hd
        go_simp
        refine (isf_yes ((1, (-3), ⟨#[]⟩) : Val) 0 (k56 0) (k56 1) W h56).mono ?_
        rintro e w6 ⟨rfl, hb6⟩
        exact hK' _ _ (hK _ _ ⟨fun _ => 0, rfl, trivial⟩ hb6)
      · obtain rfl := Option.some.inj (ho.symm.trans rfl)
        clear ho
        have e54 : A.tmps[54]? = some (x 35) := hA2 35 (by omega)
        obtain ⟨k54, f54, h54⟩ := hd 35 (by decide)
        replace f54 : x 35 = .bool true := f54
        clear h54
        rw [f54] at e54
        have e63 : A.tmps[63]? = some (x 44) := hA2 44 (by omega)
        obtain ⟨k63, f63, h63⟩ := hd 44 (by decide)
        replace f63 : x 44 = .bool true := f63
        clear h63
        rw [f63] at e63
        clear hA2 hX hd
        go_simp
        exact hK' _ _ (hK _ _ ⟨fun _ => 0, rfl, trivial⟩ (Below.refl _ _))
      · obtain rfl := Option.some.inj (ho.symm.trans rfl)
        clear ho
        have e64 : A.tmps[64]? = some (x 45) := hA2 45 (by omega)
        obtain ⟨k64, f64, h64⟩ := hd 45 (by decide)
        replace f64 : x 45 = .bool true := f64
        clear h64
        rw [f64] at e64
        clear hA2 hX hd
        go_simp
        exact hK' _ _ (hK _ _ ⟨fun _ => 0, rfl, trivial⟩ (Below.refl _ _))
      · obtain rfl := Option.some.inj (ho.symm.trans rfl)
        clear ho
        have e65 : A.tmps[65]? = some (x 46) := hA2 46 (by omega)
        obtain ⟨k65, f65, h65⟩ := hd 46 (by decide)
        replace f65 : x 46 = .bool true := f65
        clear h65
        rw [f65] at e65
        clear hA2 hX hd
        go_simp
        refine (mkNumber15 _ _).mono ?_
        rintro e w6 ⟨rfl, hb6⟩
        exact hK' _ _ (hK _ _ ⟨fun _ => 0, rfl, trivial⟩ hb6)
      · obtain rfl := Option.some.inj (ho.symm.trans rfl)
        clear ho
        have e65 : A.tmps[65]? = some (x 46) := hA2 46 (by omega)
        obtain ⟨k65, f65, h65⟩ := hd 46 (by decide)
        replace f65 : x 46 = .bool true := f65
        clear h65
        rw [f65] at e65
        have e66 : A.tmps[66]? = some (x 47) := hA2 47 (by omega)
        obtain ⟨k66, f66, h66⟩ := hd 47 (by decide)
        replace f66 : x 47 = .agg #[.int .u8 1, .int .i64 (-1), .string ⟨#[]⟩] := f66
        clear h66
        rw [f66] at e66
        clear hA2 hX hd
        go_simp
        refine (mkis_any ((1, (-1), ⟨#[]⟩) : Val) 0 _).mono ?_
        rintro e w6 ⟨g6, h6, rfl, hi6, hb6⟩
        exact hK' _ _ (hK _ _ ⟨kk4 g6 h6 0 0, rfl, hi6⟩ hb6)
      · obtain rfl := Option.some.inj (ho.symm.trans rfl)
        clear ho
        have e65 : A.tmps[65]? = some (x 46) := hA2 46 (by omega)
        obtain ⟨k65, f65, h65⟩ := hd 46 (by decide)
        replace f65 : x 46 = .bool true := f65
        clear h65
        rw [f65] at e65
        clear hA2 hX hd
        go_simp
        refine (mkNumber15 _ _).mono ?_
        rintro e w6 ⟨rfl, hb6⟩
        exact hK' _ _ (hK _ _ ⟨fun _ => 0, rfl, trivial⟩ hb6)
    by_cases hc2 : i < 75
    · obtain rfl | rfl | rfl | rfl | rfl | rfl | rfl | rfl | rfl | rfl | rfl | rfl | rfl | rfl | rfl | rfl | rfl | rfl | rfl | rfl | rfl | rfl | rfl | rfl | rfl : i = 50 ∨ i = 51 ∨ i = 52 ∨ i = 53 ∨ i = 54 ∨ i = 55 ∨ i = 56 ∨ i = 57 ∨ i = 58 ∨ i = 59 ∨ i = 60 ∨ i = 61 ∨ i = 62 ∨ i = 63 ∨ i = 64 ∨ i = 65 ∨ i = 66 ∨ i = 67 ∨ i = 68 ∨ i = 69 ∨ i = 70 ∨ i = 71 ∨ i = 72 ∨ i = 73 ∨ i = 74 := by omega
      · obtain rfl := Option.some.inj (ho.symm.trans rfl)
        clear ho
        have e65 : A.tmps[65]? = some (x 46) := hA2 46 (by omega)
        obtain ⟨k65, f65, h65⟩ := hd 46 (by decide)
        replace f65 : x 46 = .bool true := f65
        clear h65
        rw [f65] at e65
        clear hA2 hX hd
        go_simp
        refine (mkNumber15 _ _).mono ?_
        rintro e w6 ⟨rfl, hb6⟩
        exact hK' _ _ (hK _ _ ⟨fun _ => 0, rfl, trivial⟩ hb6)
      · obtain rfl := Option.some.inj (ho.symm.trans rfl)
        clear ho
        have e65 : A.tmps[65]? = some (x 46) := hA2 46 (by omega)
        obtain ⟨k65, f65, h65⟩ := hd 46 (by decide)
        replace f65 : x 46 = .bool true := f65
        clear h65
        rw [f65] at e65
        have e68 : A.tmps[68]? = some (x 49) := hA2 49 (by omega)
        obtain ⟨k68, f68, h68⟩ := hd 49 (by decide)
        replace f68 : x 49 = .agg #[.int .u8 1, .int .i64 (-7), .string ⟨#[]⟩] := f68
        clear h68
        rw [f68] at e68
        have e69 : A.tmps[69]? = some (x 50) := hA2 50 (by omega)
        obtain ⟨k69, f69, h69⟩ := hd 50 (by decide)
        replace f69 : x 50 = .agg #[.int .u8 1, .int .i64 2, .string ⟨#[]⟩] := f69
        clear h69
        rw [f69] at e69
        clear hA2 hX hd
        go_simp
        refine (two_any 10 ((1, (-7), ⟨#[]⟩) : Val) ((1, 2, ⟨#[]⟩) : Val) _).mono ?_
        rintro e w6 ⟨g6, rfl, hi6, hb6⟩
        exact hK' _ _ (hK _ _ ⟨kk4 g6 0 0 0, rfl, hi6⟩ hb6)
      · obtain rfl := Option.some.inj (ho.symm.trans rfl)
        clear ho
        have e65 : A.tmps[65]? = some (x 46) := hA2 46 (by omega)
        obtain ⟨k65, f65, h65⟩ := hd 46 (by decide)
        replace f65 : x 46 = .bool true := f65
        clear h65
        rw [f65] at e65
        have e70 : A.tmps[70]? = some (x 51) := hA2 51 (by omega)
        obtain ⟨k70, f70, h70⟩ := hd 51 (by decide)
        replace f70 : x 51 = .agg #[.int .u8 10, .int .u8 0, .int .i64 0, .string ⟨#[]⟩, .string ⟨#[]⟩, .string ⟨#[]⟩, .int .i64 0, .slice (some ⟨k70 0, 0, none⟩) 2 2] := f70
        replace h70 : prP (.kids [leafX ((1, (-7), ⟨#[]⟩) : Val), leafX ((1, 2, ⟨#[]⟩) : Val)]) k70 W := h70
        rw [f70] at e70
        clear hA2 hX hd
        go_simp
        refine (ev_2 10 (by omega) ((1, (-7), ⟨#[]⟩) : Val) ((1, 2, ⟨#[]⟩) : Val) (vk_n (-7) (by omega)) (vk_n (2) (by omega)) (k70 0) W h70 (((1, (-1), ⟨#[]⟩) : Val), 0) (by rfl)).mono ?_
        rintro e w6 ⟨rfl, hb6⟩
        exact hK' _ _ (hK _ _ ⟨fun _ => 0, rfl, trivial⟩ hb6)
      · obtain rfl := Option.some.inj (ho.symm.trans rfl)
        clear ho
        have e65 : A.tmps[65]? = some (x 46) := hA2 46 (by omega)
        obtain ⟨k65, f65, h65⟩ := hd 46 (by decide)
        replace f65 : x 46 = .bool true := f65
        clear h65
        rw [f65] at e65
        have e71 : A.tmps[71]? = some (x 52) := hA2 52 (by omega)
        obtain ⟨k71, f71, h71⟩ := hd 52 (by decide)
        replace f71 : x 52 = .tuple #[.agg #[.int .u8 1, .int .i64 (-1), .string ⟨#[]⟩], .int .i64 0] := f71
        clear h71
        rw [f71] at e71
        clear hA2 hX hd
        go_simp
        exact hK' _ _ (hK _ _ ⟨fun _ => 0, rfl, trivial⟩ (Below.refl _ _))
      · obtain rfl := Option.some.inj (ho.symm.trans rfl)
        clear ho
        have e65 : A.tmps[65]? = some (x 46) := hA2 46 (by omega)
        obtain ⟨k65, f65, h65⟩ := hd 46 (by decide)
        replace f65 : x 46 = .bool true := f65
        clear h65
        rw [f65] at e65
        have e71 : A.tmps[71]? = some (x 52) := hA2 52 (by omega)
        obtain ⟨k71, f71, h71⟩ := hd 52 (by decide)
        replace f71 : x 52 = .tuple #[.agg #[.int .u8 1, .int .i64 (-1), .string ⟨#[]⟩], .int .i64 0] := f71
        clear h71
        rw [f71] at e71
        clear hA2 hX hd
        go_simp
        exact hK' _ _ (hK _ _ ⟨fun _ => 0, rfl, trivial⟩ (Below.refl _ _))
      · obtain rfl := Option.some.inj (ho.symm.trans rfl)
        clear ho
        have e65 : A.tmps[65]? = some (x 46) := hA2 46 (by omega)
        obtain ⟨k65, f65, h65⟩ := hd 46 (by decide)
        replace f65 : x 46 = .bool true := f65
        clear h65
        rw [f65] at e65
        have e67 : A.tmps[67]? = some (x 48) := hA2 48 (by omega)
        obtain ⟨k67, f67, h67⟩ := hd 48 (by decide)
        replace f67 : x 48 = .func (.func 32) #[] #[.pointer (some ⟨k67 0, 0, none⟩), .pointer (some ⟨k67 1, 0, none⟩)] := f67
        replace h67 : prP (.is ((1, (-1), ⟨#[]⟩) : Val) 0) k67 W := h67
        rw [f67] at e67
        have e72 : A.tmps[72]? = some (x 53) := hA2 53 (by omega)
        obtain ⟨k72, f72, h72⟩ := hd 53 (by decide)
        replace f72 : x 53 = .agg #[.int .u8 1, .int .i64 (-1), .string ⟨#[]⟩] := f72
        clear h72
        rw [f72] at e72
        have e73 : A.tmps[73]? = some (x 54) := hA2 54 (by omega)
        obtain ⟨k73, f73, h73⟩ := hd 54 (by decide)
        replace f73 : x 54 = .int .i64 0 := f73
        clear h73
        rw [f73] at e73
        clear hA2 hX hd
        go_simp
        refine (isf_yes ((1, (-1), ⟨#[]⟩) : Val) 0 (k67 0) (k67 1) W h67).mono ?_
        rintro e w6 ⟨rfl, hb6⟩
        exact hK' _ _ (hK _ _ ⟨fun _ => 0, rfl, trivial⟩ hb6)
      · obtain rfl := Option.some.inj (ho.symm.trans rfl)
        clear ho
        have e65 : A.tmps[65]? = some (x 46) := hA2 46 (by omega)
        obtain ⟨k65, f65, h65⟩ := hd 46 (by decide)
        replace f65 : x 46 = .bool true := f65
        clear h65
        rw [f65] at e65
        have e74 : A.tmps[74]? = some (x 55) := hA2 55 (by omega)
        obtain ⟨k74, f74, h74⟩ := hd 55 (by decide)
        replace f74 : x 55 = .bool true := f74
        clear h74
        rw [f74] at e74
        clear hA2 hX hd
        go_simp
        exact hK' _ _ (hK _ _ ⟨fun _ => 0, rfl, trivial⟩ (Below.refl _ _))
      · obtain rfl := Option.some.inj (ho.symm.trans rfl)
        clear ho
        have e75 : A.tmps[75]? = some (x 56) := hA2 56 (by omega)
        obtain ⟨k75, f75, h75⟩ := hd 56 (by decide)
        replace f75 : x 56 = .bool true := f75
        clear h75
        rw [f75] at e75
        clear hA2 hX hd
        go_simp
        exact hK' _ _ (hK _ _ ⟨fun _ => 0, rfl, trivial⟩ (Below.refl _ _))
      · obtain rfl := Option.some.inj (ho.symm.trans rfl)
        clear ho
        have e76 : A.tmps[76]? = some (x 57) := hA2 57 (by omega)
        obtain ⟨k76, f76, h76⟩ := hd 57 (by decide)
        replace f76 : x 57 = .bool true := f76
        clear h76
        rw [f76] at e76
        clear hA2 hX hd
        go_simp
        refine (mkNumber15 _ _).mono ?_
        rintro e w6 ⟨rfl, hb6⟩
        exact hK' _ _ (hK _ _ ⟨fun _ => 0, rfl, trivial⟩ hb6)
      · obtain rfl := Option.some.inj (ho.symm.trans rfl)
        clear ho
        have e76 : A.tmps[76]? = some (x 57) := hA2 57 (by omega)
        obtain ⟨k76, f76, h76⟩ := hd 57 (by decide)
        replace f76 : x 57 = .bool true := f76
        clear h76
        rw [f76] at e76
        have e77 : A.tmps[77]? = some (x 58) := hA2 58 (by omega)
        obtain ⟨k77, f77, h77⟩ := hd 58 (by decide)
        replace f77 : x 58 = .agg #[.int .u8 1, .int .i64 0, .string ⟨#[]⟩] := f77
        clear h77
        rw [f77] at e77
        clear hA2 hX hd
        go_simp
        refine (mkis_any ((1, 0, ⟨#[]⟩) : Val) 0 _).mono ?_
        rintro e w6 ⟨g6, h6, rfl, hi6, hb6⟩
        exact hK' _ _ (hK _ _ ⟨kk4 g6 h6 0 0, rfl, hi6⟩ hb6)
      · obtain rfl := Option.some.inj (ho.symm.trans rfl)
        clear ho
        have e76 : A.tmps[76]? = some (x 57) := hA2 57 (by omega)
        obtain ⟨k76, f76, h76⟩ := hd 57 (by decide)
        replace f76 : x 57 = .bool true := f76
        clear h76
        rw [f76] at e76
        clear hA2 hX hd
        go_simp
        refine (mkNumber15 _ _).mono ?_
        rintro e w6 ⟨rfl, hb6⟩
        exact hK' _ _ (hK _ _ ⟨fun _ => 0, rfl, trivial⟩ hb6)
      · obtain rfl := Option.some.inj (ho.symm.trans rfl)
        clear ho
        have e1 : A.tmps[1]? = some (.pointer (some ⟨w.heap.size, 0, none⟩)) := (hX 1 (by decide)).trans rfl
        have e76 : A.tmps[76]? = some (x 57) := hA2 57 (by omega)
        obtain ⟨k76, f76, h76⟩ := hd 57 (by decide)
        replace f76 : x 57 = .bool true := f76
        clear h76
        rw [f76] at e76
        clear hA2 hX hd
        have c0 := hs.1.cell 0
        have c1 := hs.1.cell 1
        have c2 := hs.1.cell 2
        go_simp
        exact hK' _ _ (hK _ _ ⟨fun _ => 0, rfl, trivial⟩ (Below.refl _ _))
      · obtain rfl := Option.some.inj (ho.symm.trans rfl)
        clear ho
        have e76 : A.tmps[76]? = some (x 57) := hA2 57 (by omega)
        obtain ⟨k76, f76, h76⟩ := hd 57 (by decide)
        replace f76 : x 57 = .bool true := f76
        clear h76
        rw [f76] at e76
        have e79 : A.tmps[79]? = some (x 60) := hA2 60 (by omega)
        obtain ⟨k79, f79, h79⟩ := hd 60 (by decide)
        replace f79 : x 60 = .agg #[.int .u8 1, .int .i64 0, .string ⟨#[]⟩] := f79
        clear h79
        rw [f79] at e79
        have e80 : A.tmps[80]? = some (x 61) := hA2 61 (by omega)
        obtain ⟨k80, f80, h80⟩ := hd 61 (by decide)
        replace f80 : x 61 = .agg #[.int .u8 0, .int .i64 0, .string ⟨#[]⟩] := f80
        clear h80
        rw [f80] at e80
        clear hA2 hX hd
        go_simp
        refine (two_any 18 ((1, 0, ⟨#[]⟩) : Val) ((0, 0, ⟨#[]⟩) : Val) _).mono ?_
        rintro e w6 ⟨g6, rfl, hi6, hb6⟩
        exact hK' _ _ (hK _ _ ⟨kk4 g6 0 0 0, rfl, hi6⟩ hb6)
      · obtain rfl := Option.some.inj (ho.symm.trans rfl)
        clear ho
        have e76 : A.tmps[76]? = some (x 57) := hA2 57 (by omega)
        obtain ⟨k76, f76, h76⟩ := hd 57 (by decide)
        replace f76 : x 57 = .bool true := f76
        clear h76
        rw [f76] at e76
        have e81 : A.tmps[81]? = some (x 62) := hA2 62 (by omega)
        obtain ⟨k81, f81, h81⟩ := hd 62 (by decide)
        replace f81 : x 62 = .agg #[.int .u8 18, .int .u8 0, .int .i64 0, .string ⟨#[]⟩, .string ⟨#[]⟩, .string ⟨#[]⟩, .int .i64 0, .slice (some ⟨k81 0, 0, none⟩) 2 2] := f81
        replace h81 : prP (.kids [leafX ((1, 0, ⟨#[]⟩) : Val), leafX ((0, 0, ⟨#[]⟩) : Val)]) k81 W := h81
        rw [f81] at e81
        clear hA2 hX hd
        go_simp
        refine (ev_2 18 (by omega) ((1, 0, ⟨#[]⟩) : Val) ((0, 0, ⟨#[]⟩) : Val) (vk_n (0) (by omega)) vk_z (k81 0) W h81 (((1, 0, ⟨#[]⟩) : Val), 0) (by rfl)).mono ?_
        rintro e w6 ⟨rfl, hb6⟩
        exact hK' _ _ (hK _ _ ⟨fun _ => 0, rfl, trivial⟩ hb6)
      · obtain rfl := Option.some.inj (ho.symm.trans rfl)
        clear ho
        have e76 : A.tmps[76]? = some (x 57) := hA2 57 (by omega)
        obtain ⟨k76, f76, h76⟩ := hd 57 (by decide)
        replace f76 : x 57 = .bool true := f76
        clear h76
        rw [f76] at e76
        have e82 : A.tmps[82]? = some (x 63) := hA2 63 (by omega)
        obtain ⟨k82, f82, h82⟩ := hd 63 (by decide)
        replace f82 : x 63 = .tuple #[.agg #[.int .u8 1, .int .i64 0, .string ⟨#[]⟩], .int .i64 0] := f82
        clear h82
        rw [f82] at e82
        clear hA2 hX hd
        go_simp
        exact hK' _ _ (hK _ _ ⟨fun _ => 0, rfl, trivial⟩ (Below.refl _ _))
      · obtain rfl := Option.some.inj (ho.symm.trans rfl)
        clear ho
        have e76 : A.tmps[76]? = some (x 57) := hA2 57 (by omega)
        obtain ⟨k76, f76, h76⟩ := hd 57 (by decide)
        replace f76 : x 57 = .bool true := f76
        clear h76
        rw [f76] at e76
        have e82 : A.tmps[82]? = some (x 63) := hA2 63 (by omega)
        obtain ⟨k82, f82, h82⟩ := hd 63 (by decide)
        replace f82 : x 63 = .tuple #[.agg #[.int .u8 1, .int .i64 0, .string ⟨#[]⟩], .int .i64 0] := f82
        clear h82
        rw [f82] at e82
        clear hA2 hX hd
        go_simp
        exact hK' _ _ (hK _ _ ⟨fun _ => 0, rfl, trivial⟩ (Below.refl _ _))
      · obtain rfl := Option.some.inj (ho.symm.trans rfl)
        clear ho
        have e76 : A.tmps[76]? = some (x 57) := hA2 57 (by omega)
        obtain ⟨k76, f76, h76⟩ := hd 57 (by decide)
        replace f76 : x 57 = .bool true := f76
        clear h76
        rw [f76] at e76
        have e78 : A.tmps[78]? = some (x 59) := hA2 59 (by omega)
        obtain ⟨k78, f78, h78⟩ := hd 59 (by decide)
        replace f78 : x 59 = .func (.func 32) #[] #[.pointer (some ⟨k78 0, 0, none⟩), .pointer (some ⟨k78 1, 0, none⟩)] := f78
        replace h78 : prP (.is ((1, 0, ⟨#[]⟩) : Val) 0) k78 W := h78
        rw [f78] at e78
        have e83 : A.tmps[83]? = some (x 64) := hA2 64 (by omega)
        obtain ⟨k83, f83, h83⟩ := hd 64 (by decide)
        replace f83 : x 64 = .agg #[.int .u8 1, .int .i64 0, .string ⟨#[]⟩] := f83
        clear h83
        rw [f83] at e83
        have e84 : A.tmps[84]? = some (x 65) := hA2 65 (by omega)
        obtain ⟨k84, f84, h84⟩ := hd 65 (by decide)
        replace f84 : x 65 = .int .i64 0 := f84
        clear h84
        rw [f84] at e84
        clear hA2 hX hd
        go_simp
        refine (isf_yes ((1, 0, ⟨#[]⟩) : Val) 0 (k78 0) (k78 1) W h78).mono ?_
        rintro e w6 ⟨rfl, hb6⟩
        exact hK' _ _ (hK _ _ ⟨fun _ => 0, rfl, trivial⟩ hb6)
      · obtain rfl := Option.some.inj (ho.symm.trans rfl)
        clear ho
        have e76 : A.tmps[76]? = some (x 57) := hA2 57 (by omega)
        obtain ⟨k76, f76, h76⟩ := hd 57 (by decide)
        replace f76 : x 57 = .bool true := f76
        clear h76
        rw [f76] at e76
        have e85 : A.tmps[85]? = some (x 66) := hA2 66 (by omega)
        obtain ⟨k85, f85, h85⟩ := hd 66 (by decide)
        replace f85 : x 66 = .bool true := f85
        clear h85
        rw [f85] at e85
        clear hA2 hX hd
        go_simp
        exact hK' _ _ (hK _ _ ⟨fun _ => 0, rfl, trivial⟩ (Below.refl _ _))
      · obtain rfl := Option.some.inj (ho.symm.trans rfl)
        clear ho
        have e86 : A.tmps[86]? = some (x 67) := hA2 67 (by omega)
        obtain ⟨k86, f86, h86⟩ := hd 67 (by decide)
        replace f86 : x 67 = .bool true := f86
        clear h86
        rw [f86] at e86
        clear hA2 hX hd
        go_simp
        exact hK' _ _ (hK _ _ ⟨fun _ => 0, rfl, trivial⟩ (Below.refl _ _))
      · obtain rfl := Option.some.inj (ho.symm.trans rfl)
        clear ho
        have e1 : A.tmps[1]? = some (.pointer (some ⟨w.heap.size, 0, none⟩)) := (hX 1 (by decide)).trans rfl
        have e87 : A.tmps[87]? = some (x 68) := hA2 68 (by omega)
        obtain ⟨k87, f87, h87⟩ := hd 68 (by decide)
        replace f87 : x 68 = .bool true := f87
        clear h87
        rw [f87] at e87
        clear hA2 hX hd
        have c0 := hs.1.cell 0
        have c1 := hs.1.cell 1
        have c2 := hs.1.cell 2
        go_simp
        exact hK' _ _ (hK _ _ ⟨fun _ => 0, rfl, trivial⟩ (Below.refl _ _))
      · obtain rfl := Option.some.inj (ho.symm.trans rfl)
        clear ho
        have e87 : A.tmps[87]? = some (x 68) := hA2 68 (by omega)
        obtain ⟨k87, f87, h87⟩ := hd 68 (by decide)
        replace f87 : x 68 = .bool true := f87
        clear h87
        rw [f87] at e87
        have e88 : A.tmps[88]? = some (x 69) := hA2 69 (by omega)
        obtain ⟨k88, f88, h88⟩ := hd 69 (by decide)
        replace f88 : x 69 = .agg #[.int .u8 0, .int .i64 0, .string ⟨#[]⟩] := f88
        clear h88
        rw [f88] at e88
        clear hA2 hX hd
        go_simp
        refine (mkis_any ((0, 0, ⟨#[]⟩) : Val) 0 _).mono ?_
        rintro e w6 ⟨g6, h6, rfl, hi6, hb6⟩
        exact hK' _ _ (hK _ _ ⟨kk4 g6 h6 0 0, rfl, hi6⟩ hb6)
      · obtain rfl := Option.some.inj (ho.symm.trans rfl)
        clear ho
        have e87 : A.tmps[87]? = some (x 68) := hA2 68 (by omega)
        obtain ⟨k87, f87, h87⟩ := hd 68 (by decide)
        replace f87 : x 68 = .bool true := f87
        clear h87
        rw [f87] at e87
        clear hA2 hX hd
        go_simp
        refine (mkNumber15 _ _).mono ?_
        rintro e w6 ⟨rfl, hb6⟩
        exact hK' _ _ (hK _ _ ⟨fun _ => 0, rfl, trivial⟩ hb6)
      · obtain rfl := Option.some.inj (ho.symm.trans rfl)
        clear ho
        have e1 : A.tmps[1]? = some (.pointer (some ⟨w.heap.size, 0, none⟩)) := (hX 1 (by decide)).trans rfl
        have e87 : A.tmps[87]? = some (x 68) := hA2 68 (by omega)
        obtain ⟨k87, f87, h87⟩ := hd 68 (by decide)
        replace f87 : x 68 = .bool true := f87
        clear h87
        rw [f87] at e87
        clear hA2 hX hd
        have c0 := hs.1.cell 0
        have c1 := hs.1.cell 1
        have c2 := hs.1.cell 2
        go_simp
        exact hK' _ _ (hK _ _ ⟨fun _ => 0, rfl, trivial⟩ (Below.refl _ _))
      · obtain rfl := Option.some.inj (ho.symm.trans rfl)
        clear ho
        have e87 : A.tmps[87]? = some (x 68) := hA2 68 (by omega)
        obtain ⟨k87, f87, h87⟩ := hd 68 (by decide)
        replace f87 : x 68 = .bool true := f87
        clear h87
        rw [f87] at e87
        have e90 : A.tmps[90]? = some (x 71) := hA2 71 (by omega)
        obtain ⟨k90, f90, h90⟩ := hd 71 (by decide)
        replace f90 : x 71 = .agg #[.int .u8 1, .int .i64 1, .string ⟨#[]⟩] := f90
        clear h90
        rw [f90] at e90
        have e91 : A.tmps[91]? = some (x 72) := hA2 72 (by omega)
        obtain ⟨k91, f91, h91⟩ := hd 72 (by decide)
        replace f91 : x 72 = .agg #[.int .u8 0, .int .i64 0, .string ⟨#[]⟩] := f91
        clear h91
        rw [f91] at e91
        clear hA2 hX hd
        go_simp
        refine (two_any 18 ((1, 1, ⟨#[]⟩) : Val) ((0, 0, ⟨#[]⟩) : Val) _).mono ?_
        rintro e w6 ⟨g6, rfl, hi6, hb6⟩
        exact hK' _ _ (hK _ _ ⟨kk4 g6 0 0 0, rfl, hi6⟩ hb6)
      · obtain rfl := Option.some.inj (ho.symm.trans rfl)
        clear ho
        have e87 : A.tmps[87]? = some (x 68) := hA2 68 (by omega)
        obtain ⟨k87, f87, h87⟩ := hd 68 (by decide)
        replace f87 : x 68 = .bool true := f87
        clear h87
        rw [f87] at e87
        have e92 : A.tmps[92]? = some (x 73) := hA2 73 (by omega)
        obtain ⟨k92, f92, h92⟩ := hd 73 (by decide)
        replace f92 : x 73 = .agg #[.int .u8 18, .int .u8 0, .int .i64 0, .string ⟨#[]⟩, .string ⟨#[]⟩, .string ⟨#[]⟩, .int .i64 0, .slice (some ⟨k92 0, 0, none⟩) 2 2] := f92
        replace h92 : prP (.kids [leafX ((1, 1, ⟨#[]⟩) : Val), leafX ((0, 0, ⟨#[]⟩) : Val)]) k92 W := h92
        rw [f92] at e92
        clear hA2 hX hd
        go_simp
        refine (ev_2 18 (by omega) ((1, 1, ⟨#[]⟩) : Val) ((0, 0, ⟨#[]⟩) : Val) (vk_n (1) (by omega)) vk_z (k92 0) W h92 (((0, 0, ⟨#[]⟩) : Val), 0) (by rfl)).mono ?_
        rintro e w6 ⟨rfl, hb6⟩
        exact hK' _ _ (hK _ _ ⟨fun _ => 0, rfl, trivial⟩ hb6)
    by_cases hc3 : i < 100
    · obtain rfl | rfl | rfl | rfl | rfl | rfl | rfl | rfl | rfl | rfl | rfl | rfl | rfl | rfl | rfl | rfl | rfl | rfl | rfl | rfl | rfl | rfl | rfl | rfl | rfl : i = 75 ∨ i = 76 ∨ i = 77 ∨ i = 78 ∨ i = 79 ∨ i = 80 ∨ i = 81 ∨ i = 82 ∨ i = 83 ∨ i = 84 ∨ i = 85 ∨ i = 86 ∨ i = 87 ∨ i = 88 ∨ i = 89 ∨ i = 90 ∨ i = 91 ∨ i = 92 ∨ i = 93 ∨ i = 94 ∨ i = 95 ∨ i = 96 ∨ i = 97 ∨ i = 98 ∨ i = 99 := by omega
      · obtain rfl := Option.some.inj (ho.symm.trans rfl)
        clear ho
        have e87 : A.tmps[87]? = some (x 68) := hA2 68 (by omega)
        obtain ⟨k87, f87, h87⟩ := hd 68 (by decide)
        replace f87 : x 68 = .bool true := f87
        clear h87
        rw [f87] at e87
        have e93 : A.tmps[93]? = some (x 74) := hA2 74 (by omega)
        obtain ⟨k93, f93, h93⟩ := hd 74 (by decide)
        replace f93 : x 74 = .tuple #[.agg #[.int .u8 0, .int .i64 0, .string ⟨#[]⟩], .int .i64 0] := f93
        clear h93
        rw [f93] at e93
        clear hA2 hX hd
        go_simp
        exact hK' _ _ (hK _ _ ⟨fun _ => 0, rfl, trivial⟩ (Below.refl _ _))
      · obtain rfl := Option.some.inj (ho.symm.trans rfl)
        clear ho
        have e87 : A.tmps[87]? = some (x 68) := hA2 68 (by omega)
        obtain ⟨k87, f87, h87⟩ := hd 68 (by decide)
        replace f87 : x 68 = .bool true := f87
        clear h87
        rw [f87] at e87
        have e93 : A.tmps[93]? = some (x 74) := hA2 74 (by omega)
        obtain ⟨k93, f93, h93⟩ := hd 74 (by decide)
        replace f93 : x 74 = .tuple #[.agg #[.int .u8 0, .int .i64 0, .string ⟨#[]⟩], .int .i64 0] := f93
        clear h93
        rw [f93] at e93
        clear hA2 hX hd
        go_simp
        exact hK' _ _ (hK _ _ ⟨fun _ => 0, rfl, trivial⟩ (Below.refl _ _))
      · obtain rfl := Option.some.inj (ho.symm.trans rfl)
        clear ho
        have e87 : A.tmps[87]? = some (x 68) := hA2 68 (by omega)
        obtain ⟨k87, f87, h87⟩ := hd 68 (by decide)
        replace f87 : x 68 = .bool true := f87
        clear h87
        rw [f87] at e87
        have e89 : A.tmps[89]? = some (x 70) := hA2 70 (by omega)
        obtain ⟨k89, f89, h89⟩ := hd 70 (by decide)
        replace f89 : x 70 = .func (.func 32) #[] #[.pointer (some ⟨k89 0, 0, none⟩), .pointer (some ⟨k89 1, 0, none⟩)] := f89
        replace h89 : prP (.is ((0, 0, ⟨#[]⟩) : Val) 0) k89 W := h89
        rw [f89] at e89
        have e94 : A.tmps[94]? = some (x 75) := hA2 75 (by omega)
        obtain ⟨k94, f94, h94⟩ := hd 75 (by decide)
        replace f94 : x 75 = .agg #[.int .u8 0, .int .i64 0, .string ⟨#[]⟩] := f94
        clear h94
        rw [f94] at e94
        have e95 : A.tmps[95]? = some (x 76) := hA2 76 (by omega)
        obtain ⟨k95, f95, h95⟩ := hd 76 (by decide)
        replace f95 : x 76 = .int .i64 0 := f95
        clear h95
        rw [f95] at e95
        clear hA2 hX hd
        go_simp
        refine (isf_yes ((0, 0, ⟨#[]⟩) : Val) 0 (k89 0) (k89 1) W h89).mono ?_
        rintro e w6 ⟨rfl, hb6⟩
        exact hK' _ _ (hK _ _ ⟨fun _ => 0, rfl, trivial⟩ hb6)
      · obtain rfl := Option.some.inj (ho.symm.trans rfl)
        clear ho
        have e87 : A.tmps[87]? = some (x 68) := hA2 68 (by omega)
        obtain ⟨k87, f87, h87⟩ := hd 68 (by decide)
        replace f87 : x 68 = .bool true := f87
        clear h87
        rw [f87] at e87
        have e96 : A.tmps[96]? = some (x 77) := hA2 77 (by omega)
        obtain ⟨k96, f96, h96⟩ := hd 77 (by decide)
        replace f96 : x 77 = .bool true := f96
        clear h96
        rw [f96] at e96
        clear hA2 hX hd
        go_simp
        exact hK' _ _ (hK _ _ ⟨fun _ => 0, rfl, trivial⟩ (Below.refl _ _))
      · obtain rfl := Option.some.inj (ho.symm.trans rfl)
        clear ho
        have e97 : A.tmps[97]? = some (x 78) := hA2 78 (by omega)
        obtain ⟨k97, f97, h97⟩ := hd 78 (by decide)
        replace f97 : x 78 = .bool true := f97
        clear h97
        rw [f97] at e97
        clear hA2 hX hd
        go_simp
        exact hK' _ _ (hK _ _ ⟨fun _ => 0, rfl, trivial⟩ (Below.refl _ _))
      · obtain rfl := Option.some.inj (ho.symm.trans rfl)
        clear ho
        have e98 : A.tmps[98]? = some (x 79) := hA2 79 (by omega)
        obtain ⟨k98, f98, h98⟩ := hd 79 (by decide)
        replace f98 : x 79 = .bool true := f98
        clear h98
        rw [f98] at e98
        clear hA2 hX hd
        go_simp
        refine (mkNumber15 _ _).mono ?_
        rintro e w6 ⟨rfl, hb6⟩
        exact hK' _ _ (hK _ _ ⟨fun _ => 0, rfl, trivial⟩ hb6)
      · obtain rfl := Option.some.inj (ho.symm.trans rfl)
        clear ho
        have e98 : A.tmps[98]? = some (x 79) := hA2 79 (by omega)
        obtain ⟨k98, f98, h98⟩ := hd 79 (by decide)
        replace f98 : x 79 = .bool true := f98
        clear h98
        rw [f98] at e98
        have e99 : A.tmps[99]? = some (x 80) := hA2 80 (by omega)
        obtain ⟨k99, f99, h99⟩ := hd 80 (by decide)
        replace f99 : x 80 = .agg #[.int .u8 1, .int .i64 1, .string ⟨#[]⟩] := f99
        clear h99
        rw [f99] at e99
        clear hA2 hX hd
        go_simp
        refine (mkis_any ((1, 1, ⟨#[]⟩) : Val) 0 _).mono ?_
        rintro e w6 ⟨g6, h6, rfl, hi6, hb6⟩
        exact hK' _ _ (hK _ _ ⟨kk4 g6 h6 0 0, rfl, hi6⟩ hb6)
      · obtain rfl := Option.some.inj (ho.symm.trans rfl)
        clear ho
        have e98 : A.tmps[98]? = some (x 79) := hA2 79 (by omega)
        obtain ⟨k98, f98, h98⟩ := hd 79 (by decide)
        replace f98 : x 79 = .bool true := f98
        clear h98
        rw [f98] at e98
        clear hA2 hX hd
        go_simp
        refine (mkNumber15 _ _).mono ?_
        rintro e w6 ⟨rfl, hb6⟩
        exact hK' _ _ (hK _ _ ⟨fun _ => 0, rfl, trivial⟩ hb6)
      · obtain rfl := Option.some.inj (ho.symm.trans rfl)
        clear ho
        have e1 : A.tmps[1]? = some (.pointer (some ⟨w.heap.size, 0, none⟩)) := (hX 1 (by decide)).trans rfl
        have e98 : A.tmps[98]? = some (x 79) := hA2 79 (by omega)
        obtain ⟨k98, f98, h98⟩ := hd 79 (by decide)
        replace f98 : x 79 = .bool true := f98
        clear h98
        rw [f98] at e98
        clear hA2 hX hd
        have c0 := hs.1.cell 0
        have c1 := hs.1.cell 1
        have c2 := hs.1.cell 2
        go_simp
        exact hK' _ _ (hK _ _ ⟨fun _ => 0, rfl, trivial⟩ (Below.refl _ _))
      · obtain rfl := Option.some.inj (ho.symm.trans rfl)
        clear ho
        have e98 : A.tmps[98]? = some (x 79) := hA2 79 (by omega)
        obtain ⟨k98, f98, h98⟩ := hd 79 (by decide)
        replace f98 : x 79 = .bool true := f98
        clear h98
        rw [f98] at e98
        have e101 : A.tmps[101]? = some (x 82) := hA2 82 (by omega)
        obtain ⟨k101, f101, h101⟩ := hd 82 (by decide)
        replace f101 : x 82 = .agg #[.int .u8 1, .int .i64 1, .string ⟨#[]⟩] := f101
        clear h101
        rw [f101] at e101
        have e102 : A.tmps[102]? = some (x 83) := hA2 83 (by omega)
        obtain ⟨k102, f102, h102⟩ := hd 83 (by decide)
        replace f102 : x 83 = .agg #[.int .u8 0, .int .i64 0, .string ⟨#[]⟩] := f102
        clear h102
        rw [f102] at e102
        clear hA2 hX hd
        go_simp
        refine (two_any 19 ((1, 1, ⟨#[]⟩) : Val) ((0, 0, ⟨#[]⟩) : Val) _).mono ?_
        rintro e w6 ⟨g6, rfl, hi6, hb6⟩
        exact hK' _ _ (hK _ _ ⟨kk4 g6 0 0 0, rfl, hi6⟩ hb6)
      · obtain rfl := Option.some.inj (ho.symm.trans rfl)
        clear ho
        have e98 : A.tmps[98]? = some (x 79) := hA2 79 (by omega)
        obtain ⟨k98, f98, h98⟩ := hd 79 (by decide)
        replace f98 : x 79 = .bool true := f98
        clear h98
        rw [f98] at e98
        have e103 : A.tmps[103]? = some (x 84) := hA2 84 (by omega)
        obtain ⟨k103, f103, h103⟩ := hd 84 (by decide)
        replace f103 : x 84 = .agg #[.int .u8 19, .int .u8 0, .int .i64 0, .string ⟨#[]⟩, .string ⟨#[]⟩, .string ⟨#[]⟩, .int .i64 0, .slice (some ⟨k103 0, 0, none⟩) 2 2] := f103
        replace h103 : prP (.kids [leafX ((1, 1, ⟨#[]⟩) : Val), leafX ((0, 0, ⟨#[]⟩) : Val)]) k103 W := h103
        rw [f103] at e103
        clear hA2 hX hd
        go_simp
        refine (ev_2 19 (by omega) ((1, 1, ⟨#[]⟩) : Val) ((0, 0, ⟨#[]⟩) : Val) (vk_n (1) (by omega)) vk_z (k103 0) W h103 (((1, 1, ⟨#[]⟩) : Val), 0) (by rfl)).mono ?_
        rintro e w6 ⟨rfl, hb6⟩
        exact hK' _ _ (hK _ _ ⟨fun _ => 0, rfl, trivial⟩ hb6)
      · obtain rfl := Option.some.inj (ho.symm.trans rfl)
        clear ho
        have e98 : A.tmps[98]? = some (x 79) := hA2 79 (by omega)
        obtain ⟨k98, f98, h98⟩ := hd 79 (by decide)
        replace f98 : x 79 = .bool true := f98
        clear h98
        rw [f98] at e98
        have e104 : A.tmps[104]? = some (x 85) := hA2 85 (by omega)
        obtain ⟨k104, f104, h104⟩ := hd 85 (by decide)
        replace f104 : x 85 = .tuple #[.agg #[.int .u8 1, .int .i64 1, .string ⟨#[]⟩], .int .i64 0] := f104
        clear h104
        rw [f104] at e104
        clear hA2 hX hd
        go_simp
        exact hK' _ _ (hK _ _ ⟨fun _ => 0, rfl, trivial⟩ (Below.refl _ _))
      · obtain rfl := Option.some.inj (ho.symm.trans rfl)
        clear ho
        have e98 : A.tmps[98]? = some (x 79) := hA2 79 (by omega)
        obtain ⟨k98, f98, h98⟩ := hd 79 (by decide)
        replace f98 : x 79 = .bool true := f98
        clear h98
        rw [f98] at e98
        have e104 : A.tmps[104]? = some (x 85) := hA2 85 (by omega)
        obtain ⟨k104, f104, h104⟩ := hd 85 (by decide)
        replace f104 : x 85 = .tuple #[.agg #[.int .u8 1, .int .i64 1, .string ⟨#[]⟩], .int .i64 0] := f104
        clear h104
        rw [f104] at e104
        clear hA2 hX hd
        go_simp
        exact hK' _ _ (hK _ _ ⟨fun _ => 0, rfl, trivial⟩ (Below.refl _ _))
      · obtain rfl := Option.some.inj (ho.symm.trans rfl)
        clear ho
        have e98 : A.tmps[98]? = some (x 79) := hA2 79 (by omega)
        obtain ⟨k98, f98, h98⟩ := hd 79 (by decide)
        replace f98 : x 79 = .bool true := f98
        clear h98
        rw [f98] at e98
        have e100 : A.tmps[100]? = some (x 81) := hA2 81 (by omega)
        obtain ⟨k100, f100, h100⟩ := hd 81 (by decide)
        replace f100 : x 81 = .func (.func 32) #[] #[.pointer (some ⟨k100 0, 0, none⟩), .pointer (some ⟨k100 1, 0, none⟩)] := f100
        replace h100 : prP (.is ((1, 1, ⟨#[]⟩) : Val) 0) k100 W := h100
        rw [f100] at e100
        have e105 : A.tmps[105]? = some (x 86) := hA2 86 (by omega)
        obtain ⟨k105, f105, h105⟩ := hd 86 (by decide)
        replace f105 : x 86 = .agg #[.int .u8 1, .int .i64 1, .string ⟨#[]⟩] := f105
        clear h105
        rw [f105] at e105
        have e106 : A.tmps[106]? = some (x 87) := hA2 87 (by omega)
        obtain ⟨k106, f106, h106⟩ := hd 87 (by decide)
        replace f106 : x 87 = .int .i64 0 := f106
        clear h106
        rw [f106] at e106
        clear hA2 hX hd
        go_simp
        refine (isf_yes ((1, 1, ⟨#[]⟩) : Val) 0 (k100 0) (k100 1) W h100).mono ?_
        rintro e w6 ⟨rfl, hb6⟩
        exact hK' _ _ (hK _ _ ⟨fun _ => 0, rfl, trivial⟩ hb6)
      · obtain rfl := Option.some.inj (ho.symm.trans rfl)
        clear ho
        have e98 : A.tmps[98]? = some (x 79) := hA2 79 (by omega)
        obtain ⟨k98, f98, h98⟩ := hd 79 (by decide)
        replace f98 : x 79 = .bool true := f98
        clear h98
        rw [f98] at e98
        have e107 : A.tmps[107]? = some (x 88) := hA2 88 (by omega)
        obtain ⟨k107, f107, h107⟩ := hd 88 (by decide)
        replace f107 : x 88 = .bool true := f107
        clear h107
        rw [f107] at e107
        clear hA2 hX hd
        go_simp
        exact hK' _ _ (hK _ _ ⟨fun _ => 0, rfl, trivial⟩ (Below.refl _ _))
      · obtain rfl := Option.some.inj (ho.symm.trans rfl)
        clear ho
        have e108 : A.tmps[108]? = some (x 89) := hA2 89 (by omega)
        obtain ⟨k108, f108, h108⟩ := hd 89 (by decide)
        replace f108 : x 89 = .bool true := f108
        clear h108
        rw [f108] at e108
        clear hA2 hX hd
        go_simp
        exact hK' _ _ (hK _ _ ⟨fun _ => 0, rfl, trivial⟩ (Below.refl _ _))
      · obtain rfl := Option.some.inj (ho.symm.trans rfl)
        clear ho
        have e1 : A.tmps[1]? = some (.pointer (some ⟨w.heap.size, 0, none⟩)) := (hX 1 (by decide)).trans rfl
        have e109 : A.tmps[109]? = some (x 90) := hA2 90 (by omega)
        obtain ⟨k109, f109, h109⟩ := hd 90 (by decide)
        replace f109 : x 90 = .bool true := f109
        clear h109
        rw [f109] at e109
        clear hA2 hX hd
        have c0 := hs.1.cell 0
        have c1 := hs.1.cell 1
        have c2 := hs.1.cell 2
        go_simp
        exact hK' _ _ (hK _ _ ⟨fun _ => 0, rfl, trivial⟩ (Below.refl _ _))
      · obtain rfl := Option.some.inj (ho.symm.trans rfl)
        clear ho
        have e109 : A.tmps[109]? = some (x 90) := hA2 90 (by omega)
        obtain ⟨k109, f109, h109⟩ := hd 90 (by decide)
        replace f109 : x 90 = .bool true := f109
        clear h109
        rw [f109] at e109
        have e110 : A.tmps[110]? = some (x 91) := hA2 91 (by omega)
        obtain ⟨k110, f110, h110⟩ := hd 91 (by decide)
        replace f110 : x 91 = .agg #[.int .u8 0, .int .i64 0, .string ⟨#[]⟩] := f110
        clear h110
        rw [f110] at e110
        clear hA2 hX hd
        go_simp
        refine (mkis_any ((0, 0, ⟨#[]⟩) : Val) 0 _).mono ?_
        rintro e w6 ⟨g6, h6, rfl, hi6, hb6⟩
        exact hK' _ _ (hK _ _ ⟨kk4 g6 h6 0 0, rfl, hi6⟩ hb6)
      · obtain rfl := Option.some.inj (ho.symm.trans rfl)
        clear ho
        have e1 : A.tmps[1]? = some (.pointer (some ⟨w.heap.size, 0, none⟩)) := (hX 1 (by decide)).trans rfl
        have e109 : A.tmps[109]? = some (x 90) := hA2 90 (by omega)
        obtain ⟨k109, f109, h109⟩ := hd 90 (by decide)
        replace f109 : x 90 = .bool true := f109
        clear h109
        rw [f109] at e109
        clear hA2 hX hd
        have c0 := hs.1.cell 0
        have c1 := hs.1.cell 1
        have c2 := hs.1.cell 2
        go_simp
        exact hK' _ _ (hK _ _ ⟨fun _ => 0, rfl, trivial⟩ (Below.refl _ _))
      · obtain rfl := Option.some.inj (ho.symm.trans rfl)
        clear ho
        have e109 : A.tmps[109]? = some (x 90) := hA2 90 (by omega)
        obtain ⟨k109, f109, h109⟩ := hd 90 (by decide)
        replace f109 : x 90 = .bool true := f109
        clear h109
        rw [f109] at e109
        have e112 : A.tmps[112]? = some (x 93) := hA2 93 (by omega)
        obtain ⟨k112, f112, h112⟩ := hd 93 (by decide)
        replace f112 : x 93 = .agg #[.int .u8 0, .int .i64 0, .string ⟨#[]⟩] := f112
        clear h112
        rw [f112] at e112
        clear hA2 hX hd
        go_simp
        refine (with_any ((0, 0, ⟨#[]⟩) : Val) _).mono ?_
        rintro e w6 ⟨rfl, hb6⟩
        exact hK' _ _ (hK _ _ ⟨fun _ => 0, rfl, trivial⟩ hb6)
      · obtain rfl := Option.some.inj (ho.symm.trans rfl)
        clear ho
        have e109 : A.tmps[109]? = some (x 90) := hA2 90 (by omega)
        obtain ⟨k109, f109, h109⟩ := hd 90 (by decide)
        replace f109 : x 90 = .bool true := f109
        clear h109
        rw [f109] at e109
        have e113 : A.tmps[113]? = some (x 94) := hA2 94 (by omega)
        obtain ⟨k113, f113, h113⟩ := hd 94 (by decide)
        replace f113 : x 94 = .agg #[.int .u8 1, .int .u8 0, .int .i64 0, .string ⟨#[]⟩, .string ⟨#[]⟩, .string ⟨#[]⟩, .int .i64 0, .slice none 0 0] := f113
        clear h113
        rw [f113] at e113
        clear hA2 hX hd
        go_simp
        exact hK' _ _ (hK _ _ ⟨kk4 W.heap.size 0 0 0, rfl, kids_1 (x := leafX ((0, 0, ⟨#[]⟩) : Val)) (Blk.new _ _ _)⟩ one_alloc)
      · obtain rfl := Option.some.inj (ho.symm.trans rfl)
        clear ho
        have e109 : A.tmps[109]? = some (x 90) := hA2 90 (by omega)
        obtain ⟨k109, f109, h109⟩ := hd 90 (by decide)
        replace f109 : x 90 = .bool true := f109
        clear h109
        rw [f109] at e109
        have e114 : A.tmps[114]? = some (x 95) := hA2 95 (by omega)
        obtain ⟨k114, f114, h114⟩ := hd 95 (by decide)
        replace f114 : x 95 = .slice (some ⟨k114 0, 0, none⟩) 1 1 := f114
        replace h114 : prP (.kids [leafX ((0, 0, ⟨#[]⟩) : Val)]) k114 W := h114
        rw [f114] at e114
        clear hA2 hX hd
        go_simp
        refine (mkof_any 4 (some ⟨k114 0, 0, none⟩) 1 1 _).mono ?_
        rintro e w6 ⟨rfl, hb6⟩
        exact hK' _ _ (hK _ _ ⟨k114, rfl, prp_step h114 hb6⟩ hb6)
      · obtain rfl := Option.some.inj (ho.symm.trans rfl)
        clear ho
        have e109 : A.tmps[109]? = some (x 90) := hA2 90 (by omega)
        obtain ⟨k109, f109, h109⟩ := hd 90 (by decide)
        replace f109 : x 90 = .bool true := f109
        clear h109
        rw [f109] at e109
        have e115 : A.tmps[115]? = some (x 96) := hA2 96 (by omega)
        obtain ⟨k115, f115, h115⟩ := hd 96 (by decide)
        replace f115 : x 96 = .agg #[.int .u8 4, .int .u8 0, .int .i64 0, .string ⟨#[]⟩, .string ⟨#[]⟩, .string ⟨#[]⟩, .int .i64 0, .slice (some ⟨k115 0, 0, none⟩) 1 1] := f115
        replace h115 : prP (.kids [leafX ((0, 0, ⟨#[]⟩) : Val)]) k115 W := h115
        rw [f115] at e115
        clear hA2 hX hd
        go_simp
        refine (ev_1 4 (by omega) ((0, 0, ⟨#[]⟩) : Val) vk_z (k115 0) W h115 (((0, 0, ⟨#[]⟩) : Val), 0) (by rfl)).mono ?_
        rintro e w6 ⟨rfl, hb6⟩
        exact hK' _ _ (hK _ _ ⟨fun _ => 0, rfl, trivial⟩ hb6)
      · obtain rfl := Option.some.inj (ho.symm.trans rfl)
        clear ho
        have e109 : A.tmps[109]? = some (x 90) := hA2 90 (by omega)
        obtain ⟨k109, f109, h109⟩ := hd 90 (by decide)
        replace f109 : x 90 = .bool true := f109
        clear h109
        rw [f109] at e109
        have e116 : A.tmps[116]? = some (x 97) := hA2 97 (by omega)
        obtain ⟨k116, f116, h116⟩ := hd 97 (by decide)
        replace f116 : x 97 = .tuple #[.agg #[.int .u8 0, .int .i64 0, .string ⟨#[]⟩], .int .i64 0] := f116
        clear h116
        rw [f116] at e116
        clear hA2 hX hd
        go_simp
        exact hK' _ _ (hK _ _ ⟨fun _ => 0, rfl, trivial⟩ (Below.refl _ _))
      · obtain rfl := Option.some.inj (ho.symm.trans rfl)
        clear ho
        have e109 : A.tmps[109]? = some (x 90) := hA2 90 (by omega)
        obtain ⟨k109, f109, h109⟩ := hd 90 (by decide)
        replace f109 : x 90 = .bool true := f109
        clear h109
        rw [f109] at e109
        have e116 : A.tmps[116]? = some (x 97) := hA2 97 (by omega)
        obtain ⟨k116, f116, h116⟩ := hd 97 (by decide)
        replace f116 : x 97 = .tuple #[.agg #[.int .u8 0, .int .i64 0, .string ⟨#[]⟩], .int .i64 0] := f116
        clear h116
        rw [f116] at e116
        clear hA2 hX hd
        go_simp
        exact hK' _ _ (hK _ _ ⟨fun _ => 0, rfl, trivial⟩ (Below.refl _ _))
    by_cases hc4 : i < 125
    · obtain rfl | rfl | rfl | rfl | rfl | rfl | rfl | rfl | rfl | rfl | rfl | rfl | rfl | rfl | rfl | rfl | rfl | rfl | rfl | rfl | rfl | rfl | rfl | rfl | rfl : i = 100 ∨ i = 101 ∨ i = 102 ∨ i = 103 ∨ i = 104 ∨ i = 105 ∨ i = 106 ∨ i = 107 ∨ i = 108 ∨ i = 109 ∨ i = 110 ∨ i = 111 ∨ i = 112 ∨ i = 113 ∨ i = 114 ∨ i = 115 ∨ i = 116 ∨ i = 117 ∨ i = 118 ∨ i = 119 ∨ i = 120 ∨ i = 121 ∨ i = 122 ∨ i = 123 ∨ i = 124 := by omega
      · obtain rfl := Option.some.inj (ho.symm.trans rfl)
        clear ho
        have e109 : A.tmps[109]? = some (x 90) := hA2 90 (by omega)
        obtain ⟨k109, f109, h109⟩ := hd 90 (by decide)
        replace f109 : x 90 = .bool true := f109
        clear h109
        rw [f109] at e109
        have e111 : A.tmps[111]? = some (x 92) := hA2 92 (by omega)
        obtain ⟨k111, f111, h111⟩ := hd 92 (by decide)
        replace f111 : x 92 = .func (.func 32) #[] #[.pointer (some ⟨k111 0, 0, none⟩), .pointer (some ⟨k111 1, 0, none⟩)] := f111
        replace h111 : prP (.is ((0, 0, ⟨#[]⟩) : Val) 0) k111 W := h111
        rw [f111] at e111
        have e117 : A.tmps[117]? = some (x 98) := hA2 98 (by omega)
        obtain ⟨k117, f117, h117⟩ := hd 98 (by decide)
        replace f117 : x 98 = .agg #[.int .u8 0, .int .i64 0, .string ⟨#[]⟩] := f117
        clear h117
        rw [f117] at e117
        have e118 : A.tmps[118]? = some (x 99) := hA2 99 (by omega)
        obtain ⟨k118, f118, h118⟩ := hd 99 (by decide)
        replace f118 : x 99 = .int .i64 0 := f118
        clear h118
        rw [f118] at e118
        clear hA2 hX hd
        go_simp
        refine (isf_yes ((0, 0, ⟨#[]⟩) : Val) 0 (k111 0) (k111 1) W h111).mono ?_
        rintro e w6 ⟨rfl, hb6⟩
        exact hK' _ _ (hK _ _ ⟨fun _ => 0, rfl, trivial⟩ hb6)
      · obtain rfl := Option.some.inj (ho.symm.trans rfl)
        clear ho
        have e109 : A.tmps[109]? = some (x 90) := hA2 90 (by omega)
        obtain ⟨k109, f109, h109⟩ := hd 90 (by decide)
        replace f109 : x 90 = .bool true := f109
        clear h109
        rw [f109] at e109
        have e119 : A.tmps[119]? = some (x 100) := hA2 100 (by omega)
        obtain ⟨k119, f119, h119⟩ := hd 100 (by decide)
        replace f119 : x 100 = .bool true := f119
        clear h119
        rw [f119] at e119
        clear hA2 hX hd
        go_simp
        exact hK' _ _ (hK _ _ ⟨fun _ => 0, rfl, trivial⟩ (Below.refl _ _))
      · obtain rfl := Option.some.inj (ho.symm.trans rfl)
        clear ho
        have e120 : A.tmps[120]? = some (x 101) := hA2 101 (by omega)
        obtain ⟨k120, f120, h120⟩ := hd 101 (by decide)
        replace f120 : x 101 = .bool true := f120
        clear h120
        rw [f120] at e120
        clear hA2 hX hd
        go_simp
        exact hK' _ _ (hK _ _ ⟨fun _ => 0, rfl, trivial⟩ (Below.refl _ _))
      · obtain rfl := Option.some.inj (ho.symm.trans rfl)
        clear ho
        have e1 : A.tmps[1]? = some (.pointer (some ⟨w.heap.size, 0, none⟩)) := (hX 1 (by decide)).trans rfl
        have e121 : A.tmps[121]? = some (x 102) := hA2 102 (by omega)
        obtain ⟨k121, f121, h121⟩ := hd 102 (by decide)
        replace f121 : x 102 = .bool true := f121
        clear h121
        rw [f121] at e121
        clear hA2 hX hd
        have c0 := hs.1.cell 0
        have c1 := hs.1.cell 1
        have c2 := hs.1.cell 2
        go_simp
        exact hK' _ _ (hK _ _ ⟨fun _ => 0, rfl, trivial⟩ (Below.refl _ _))
      · obtain rfl := Option.some.inj (ho.symm.trans rfl)
        clear ho
        have e121 : A.tmps[121]? = some (x 102) := hA2 102 (by omega)
        obtain ⟨k121, f121, h121⟩ := hd 102 (by decide)
        replace f121 : x 102 = .bool true := f121
        clear h121
        rw [f121] at e121
        have e122 : A.tmps[122]? = some (x 103) := hA2 103 (by omega)
        obtain ⟨k122, f122, h122⟩ := hd 103 (by decide)
        replace f122 : x 103 = .agg #[.int .u8 0, .int .i64 0, .string ⟨#[]⟩] := f122
        clear h122
        rw [f122] at e122
        clear hA2 hX hd
        go_simp
        refine (mkis_any ((0, 0, ⟨#[]⟩) : Val) 150 _).mono ?_
        rintro e w6 ⟨g6, h6, rfl, hi6, hb6⟩
        exact hK' _ _ (hK _ _ ⟨kk4 g6 h6 0 0, rfl, hi6⟩ hb6)
      · obtain rfl := Option.some.inj (ho.symm.trans rfl)
        clear ho
        have e121 : A.tmps[121]? = some (x 102) := hA2 102 (by omega)
        obtain ⟨k121, f121, h121⟩ := hd 102 (by decide)
        replace f121 : x 102 = .bool true := f121
        clear h121
        rw [f121] at e121
        clear hA2 hX hd
        go_simp
        refine (mkNumber15 _ _).mono ?_
        rintro e w6 ⟨rfl, hb6⟩
        exact hK' _ _ (hK _ _ ⟨fun _ => 0, rfl, trivial⟩ hb6)
      · obtain rfl := Option.some.inj (ho.symm.trans rfl)
        clear ho
        have e121 : A.tmps[121]? = some (x 102) := hA2 102 (by omega)
        obtain ⟨k121, f121, h121⟩ := hd 102 (by decide)
        replace f121 : x 102 = .bool true := f121
        clear h121
        rw [f121] at e121
        clear hA2 hX hd
        go_simp
        refine (text15_any _ _).mono ?_
        rintro e w6 ⟨rfl, hb6⟩
        exact hK' _ _ (hK _ _ ⟨fun _ => 0, rfl, trivial⟩ hb6)
      · obtain rfl := Option.some.inj (ho.symm.trans rfl)
        clear ho
        have e121 : A.tmps[121]? = some (x 102) := hA2 102 (by omega)
        obtain ⟨k121, f121, h121⟩ := hd 102 (by decide)
        replace f121 : x 102 = .bool true := f121
        clear h121
        rw [f121] at e121
        have e124 : A.tmps[124]? = some (x 105) := hA2 105 (by omega)
        obtain ⟨k124, f124, h124⟩ := hd 105 (by decide)
        replace f124 : x 105 = .agg #[.int .u8 1, .int .i64 1, .string ⟨#[]⟩] := f124
        clear h124
        rw [f124] at e124
        have e125 : A.tmps[125]? = some (x 106) := hA2 106 (by omega)
        obtain ⟨k125, f125, h125⟩ := hd 106 (by decide)
        replace f125 : x 106 = .agg #[.int .u8 2, .int .i64 0, .string ⟨#[97]⟩] := f125
        clear h125
        rw [f125] at e125
        clear hA2 hX hd
        go_simp
        refine (two_any 12 ((1, 1, ⟨#[]⟩) : Val) ((2, 0, ⟨#[97]⟩) : Val) _).mono ?_
        rintro e w6 ⟨g6, rfl, hi6, hb6⟩
        exact hK' _ _ (hK _ _ ⟨kk4 g6 0 0 0, rfl, hi6⟩ hb6)
      · obtain rfl := Option.some.inj (ho.symm.trans rfl)
        clear ho
        have e121 : A.tmps[121]? = some (x 102) := hA2 102 (by omega)
        obtain ⟨k121, f121, h121⟩ := hd 102 (by decide)
        replace f121 : x 102 = .bool true := f121
        clear h121
        rw [f121] at e121
        have e126 : A.tmps[126]? = some (x 107) := hA2 107 (by omega)
        obtain ⟨k126, f126, h126⟩ := hd 107 (by decide)
        replace f126 : x 107 = .agg #[.int .u8 12, .int .u8 0, .int .i64 0, .string ⟨#[]⟩, .string ⟨#[]⟩, .string ⟨#[]⟩, .int .i64 0, .slice (some ⟨k126 0, 0, none⟩) 2 2] := f126
        replace h126 : prP (.kids [leafX ((1, 1, ⟨#[]⟩) : Val), leafX ((2, 0, ⟨#[97]⟩) : Val)]) k126 W := h126
        rw [f126] at e126
        clear hA2 hX hd
        go_simp
        refine (ev_2 12 (by omega) ((1, 1, ⟨#[]⟩) : Val) ((2, 0, ⟨#[97]⟩) : Val) (vk_n (1) (by omega)) (vk_t 97) (k126 0) W h126 (((0, 0, ⟨#[]⟩) : Val), 150) (by rfl)).mono ?_
        rintro e w6 ⟨rfl, hb6⟩
        exact hK' _ _ (hK _ _ ⟨fun _ => 0, rfl, trivial⟩ hb6)
      · obtain rfl := Option.some.inj (ho.symm.trans rfl)
        clear ho
        have e121 : A.tmps[121]? = some (x 102) := hA2 102 (by omega)
        obtain ⟨k121, f121, h121⟩ := hd 102 (by decide)
        replace f121 : x 102 = .bool true := f121
        clear h121
        rw [f121] at e121
        have e127 : A.tmps[127]? = some (x 108) := hA2 108 (by omega)
        obtain ⟨k127, f127, h127⟩ := hd 108 (by decide)
        replace f127 : x 108 = .tuple #[.agg #[.int .u8 0, .int .i64 0, .string ⟨#[]⟩], .int .i64 150] := f127
        clear h127
        rw [f127] at e127
        clear hA2 hX hd
        go_simp
        exact hK' _ _ (hK _ _ ⟨fun _ => 0, rfl, trivial⟩ (Below.refl _ _))
      · obtain rfl := Option.some.inj (ho.symm.trans rfl)
        clear ho
        have e121 : A.tmps[121]? = some (x 102) := hA2 102 (by omega)
        obtain ⟨k121, f121, h121⟩ := hd 102 (by decide)
        replace f121 : x 102 = .bool true := f121
        clear h121
        rw [f121] at e121
        have e127 : A.tmps[127]? = some (x 108) := hA2 108 (by omega)
        obtain ⟨k127, f127, h127⟩ := hd 108 (by decide)
        replace f127 : x 108 = .tuple #[.agg #[.int .u8 0, .int .i64 0, .string ⟨#[]⟩], .int .i64 150] := f127
        clear h127
        rw [f127] at e127
        clear hA2 hX hd
        go_simp
        exact hK' _ _ (hK _ _ ⟨fun _ => 0, rfl, trivial⟩ (Below.refl _ _))
      · obtain rfl := Option.some.inj (ho.symm.trans rfl)
        clear ho
        have e121 : A.tmps[121]? = some (x 102) := hA2 102 (by omega)
        obtain ⟨k121, f121, h121⟩ := hd 102 (by decide)
        replace f121 : x 102 = .bool true := f121
        clear h121
        rw [f121] at e121
        have e123 : A.tmps[123]? = some (x 104) := hA2 104 (by omega)
        obtain ⟨k123, f123, h123⟩ := hd 104 (by decide)
        replace f123 : x 104 = .func (.func 32) #[] #[.pointer (some ⟨k123 0, 0, none⟩), .pointer (some ⟨k123 1, 0, none⟩)] := f123
        replace h123 : prP (.is ((0, 0, ⟨#[]⟩) : Val) 150) k123 W := h123
        rw [f123] at e123
        have e128 : A.tmps[128]? = some (x 109) := hA2 109 (by omega)
        obtain ⟨k128, f128, h128⟩ := hd 109 (by decide)
        replace f128 : x 109 = .agg #[.int .u8 0, .int .i64 0, .string ⟨#[]⟩] := f128
        clear h128
        rw [f128] at e128
        have e129 : A.tmps[129]? = some (x 110) := hA2 110 (by omega)
        obtain ⟨k129, f129, h129⟩ := hd 110 (by decide)
        replace f129 : x 110 = .int .i64 150 := f129
        clear h129
        rw [f129] at e129
        clear hA2 hX hd
        go_simp
        refine (isf_yes ((0, 0, ⟨#[]⟩) : Val) 150 (k123 0) (k123 1) W h123).mono ?_
        rintro e w6 ⟨rfl, hb6⟩
        exact hK' _ _ (hK _ _ ⟨fun _ => 0, rfl, trivial⟩ hb6)
      · obtain rfl := Option.some.inj (ho.symm.trans rfl)
        clear ho
        have e121 : A.tmps[121]? = some (x 102) := hA2 102 (by omega)
        obtain ⟨k121, f121, h121⟩ := hd 102 (by decide)
        replace f121 : x 102 = .bool true := f121
        clear h121
        rw [f121] at e121
        have e130 : A.tmps[130]? = some (x 111) := hA2 111 (by omega)
        obtain ⟨k130, f130, h130⟩ := hd 111 (by decide)
        replace f130 : x 111 = .bool true := f130
        clear h130
        rw [f130] at e130
        clear hA2 hX hd
        go_simp
        exact hK' _ _ (hK _ _ ⟨fun _ => 0, rfl, trivial⟩ (Below.refl _ _))
      · obtain rfl := Option.some.inj (ho.symm.trans rfl)
        clear ho
        have e131 : A.tmps[131]? = some (x 112) := hA2 112 (by omega)
        obtain ⟨k131, f131, h131⟩ := hd 112 (by decide)
        replace f131 : x 112 = .bool true := f131
        clear h131
        rw [f131] at e131
        clear hA2 hX hd
        go_simp
        exact hK' _ _ (hK _ _ ⟨fun _ => 0, rfl, trivial⟩ (Below.refl _ _))
      · obtain rfl := Option.some.inj (ho.symm.trans rfl)
        clear ho
        have e132 : A.tmps[132]? = some (x 113) := hA2 113 (by omega)
        obtain ⟨k132, f132, h132⟩ := hd 113 (by decide)
        replace f132 : x 113 = .bool true := f132
        clear h132
        rw [f132] at e132
        clear hA2 hX hd
        go_simp
        refine (mkNumber15 _ _).mono ?_
        rintro e w6 ⟨rfl, hb6⟩
        exact hK' _ _ (hK _ _ ⟨fun _ => 0, rfl, trivial⟩ hb6)
      · obtain rfl := Option.some.inj (ho.symm.trans rfl)
        clear ho
        have e132 : A.tmps[132]? = some (x 113) := hA2 113 (by omega)
        obtain ⟨k132, f132, h132⟩ := hd 113 (by decide)
        replace f132 : x 113 = .bool true := f132
        clear h132
        rw [f132] at e132
        have e133 : A.tmps[133]? = some (x 114) := hA2 114 (by omega)
        obtain ⟨k133, f133, h133⟩ := hd 114 (by decide)
        replace f133 : x 114 = .agg #[.int .u8 1, .int .i64 1, .string ⟨#[]⟩] := f133
        clear h133
        rw [f133] at e133
        clear hA2 hX hd
        go_simp
        refine (mkis_any ((1, 1, ⟨#[]⟩) : Val) 0 _).mono ?_
        rintro e w6 ⟨g6, h6, rfl, hi6, hb6⟩
        exact hK' _ _ (hK _ _ ⟨kk4 g6 h6 0 0, rfl, hi6⟩ hb6)
      · obtain rfl := Option.some.inj (ho.symm.trans rfl)
        clear ho
        have e132 : A.tmps[132]? = some (x 113) := hA2 113 (by omega)
        obtain ⟨k132, f132, h132⟩ := hd 113 (by decide)
        replace f132 : x 113 = .bool true := f132
        clear h132
        rw [f132] at e132
        clear hA2 hX hd
        go_simp
        refine (text15_any _ _).mono ?_
        rintro e w6 ⟨rfl, hb6⟩
        exact hK' _ _ (hK _ _ ⟨fun _ => 0, rfl, trivial⟩ hb6)
      · obtain rfl := Option.some.inj (ho.symm.trans rfl)
        clear ho
        have e132 : A.tmps[132]? = some (x 113) := hA2 113 (by omega)
        obtain ⟨k132, f132, h132⟩ := hd 113 (by decide)
        replace f132 : x 113 = .bool true := f132
        clear h132
        rw [f132] at e132
        clear hA2 hX hd
        go_simp
        refine (text15_any _ _).mono ?_
        rintro e w6 ⟨rfl, hb6⟩
        exact hK' _ _ (hK _ _ ⟨fun _ => 0, rfl, trivial⟩ hb6)
      · obtain rfl := Option.some.inj (ho.symm.trans rfl)
        clear ho
        have e132 : A.tmps[132]? = some (x 113) := hA2 113 (by omega)
        obtain ⟨k132, f132, h132⟩ := hd 113 (by decide)
        replace f132 : x 113 = .bool true := f132
        clear h132
        rw [f132] at e132
        have e135 : A.tmps[135]? = some (x 116) := hA2 116 (by omega)
        obtain ⟨k135, f135, h135⟩ := hd 116 (by decide)
        replace f135 : x 116 = .agg #[.int .u8 2, .int .i64 0, .string ⟨#[97]⟩] := f135
        clear h135
        rw [f135] at e135
        have e136 : A.tmps[136]? = some (x 117) := hA2 117 (by omega)
        obtain ⟨k136, f136, h136⟩ := hd 117 (by decide)
        replace f136 : x 117 = .agg #[.int .u8 2, .int .i64 0, .string ⟨#[98]⟩] := f136
        clear h136
        rw [f136] at e136
        clear hA2 hX hd
        go_simp
        refine (two_any 14 ((2, 0, ⟨#[97]⟩) : Val) ((2, 0, ⟨#[98]⟩) : Val) _).mono ?_
        rintro e w6 ⟨g6, rfl, hi6, hb6⟩
        exact hK' _ _ (hK _ _ ⟨kk4 g6 0 0 0, rfl, hi6⟩ hb6)
      · obtain rfl := Option.some.inj (ho.symm.trans rfl)
        clear ho
        have e132 : A.tmps[132]? = some (x 113) := hA2 113 (by omega)
        obtain ⟨k132, f132, h132⟩ := hd 113 (by decide)
        replace f132 : x 113 = .bool true := f132
        clear h132
        rw [f132] at e132
        have e137 : A.tmps[137]? = some (x 118) := hA2 118 (by omega)
        obtain ⟨k137, f137, h137⟩ := hd 118 (by decide)
        replace f137 : x 118 = .agg #[.int .u8 14, .int .u8 0, .int .i64 0, .string ⟨#[]⟩, .string ⟨#[]⟩, .string ⟨#[]⟩, .int .i64 0, .slice (some ⟨k137 0, 0, none⟩) 2 2] := f137
        replace h137 : prP (.kids [leafX ((2, 0, ⟨#[97]⟩) : Val), leafX ((2, 0, ⟨#[98]⟩) : Val)]) k137 W := h137
        rw [f137] at e137
        clear hA2 hX hd
        go_simp
        refine (ev_2 14 (by omega) ((2, 0, ⟨#[97]⟩) : Val) ((2, 0, ⟨#[98]⟩) : Val) (vk_t 97) (vk_t 98) (k137 0) W h137 (((1, 1, ⟨#[]⟩) : Val), 0) (by rfl)).mono ?_
        rintro e w6 ⟨rfl, hb6⟩
        exact hK' _ _ (hK _ _ ⟨fun _ => 0, rfl, trivial⟩ hb6)
      · obtain rfl := Option.some.inj (ho.symm.trans rfl)
        clear ho
        have e132 : A.tmps[132]? = some (x 113) := hA2 113 (by omega)
        obtain ⟨k132, f132, h132⟩ := hd 113 (by decide)
        replace f132 : x 113 = .bool true := f132
        clear h132
        rw [f132] at e132
        have e138 : A.tmps[138]? = some (x 119) := hA2 119 (by omega)
        obtain ⟨k138, f138, h138⟩ := hd 119 (by decide)
        replace f138 : x 119 = .tuple #[.agg #[.int .u8 1, .int .i64 1, .string ⟨#[]⟩], .int .i64 0] := f138
        clear h138
        rw [f138] at e138
        clear hA2 hX hd
        go_simp
        exact hK' _ _ (hK _ _ ⟨fun _ => 0, rfl, trivial⟩ (Below.refl _ _))
      · obtain rfl := Option.some.inj (ho.symm.trans rfl)
        clear ho
        have e132 : A.tmps[132]? = some (x 113) := hA2 113 (by omega)
        obtain ⟨k132, f132, h132⟩ := hd 113 (by decide)
        replace f132 : x 113 = .bool true := f132
        clear h132
        rw [f132] at e132
        have e138 : A.tmps[138]? = some (x 119) := hA2 119 (by omega)
        obtain ⟨k138, f138, h138⟩ := hd 119 (by decide)
        replace f138 : x 119 = .tuple #[.agg #[.int .u8 1, .int .i64 1, .string ⟨#[]⟩], .int .i64 0] := f138
        clear h138
        rw [f138] at e138
        clear hA2 hX hd
        go_simp
        exact hK' _ _ (hK _ _ ⟨fun _ => 0, rfl, trivial⟩ (Below.refl _ _))
      · obtain rfl := Option.some.inj (ho.symm.trans rfl)
        clear ho
        have e132 : A.tmps[132]? = some (x 113) := hA2 113 (by omega)
        obtain ⟨k132, f132, h132⟩ := hd 113 (by decide)
        replace f132 : x 113 = .bool true := f132
        clear h132
        rw [f132] at e132
        have e134 : A.tmps[134]? = some (x 115) := hA2 115 (by omega)
        obtain ⟨k134, f134, h134⟩ := hd 115 (by decide)
        replace f134 : x 115 = .func (.func 32) #[] #[.pointer (some ⟨k134 0, 0, none⟩), .pointer (some ⟨k134 1, 0, none⟩)] := f134
        replace h134 : prP (.is ((1, 1, ⟨#[]⟩) : Val) 0) k134 W := h134
        rw [f134] at e134
        have e139 : A.tmps[139]? = some (x 120) := hA2 120 (by omega)
        obtain ⟨k139, f139, h139⟩ := hd 120 (by decide)
        replace f139 : x 120 = .agg #[.int .u8 1, .int .i64 1, .string ⟨#[]⟩] := f139
        clear h139
        rw [f139] at e139
        have e140 : A.tmps[140]? = some (x 121) := hA2 121 (by omega)
        obtain ⟨k140, f140, h140⟩ := hd 121 (by decide)
        replace f140 : x 121 = .int .i64 0 := f140
        clear h140
        rw [f140] at e140
        clear hA2 hX hd
        go_simp
        refine (isf_yes ((1, 1, ⟨#[]⟩) : Val) 0 (k134 0) (k134 1) W h134).mono ?_
        rintro e w6 ⟨rfl, hb6⟩
        exact hK' _ _ (hK _ _ ⟨fun _ => 0, rfl, trivial⟩ hb6)
      · obtain rfl := Option.some.inj (ho.symm.trans rfl)
        clear ho
        have e132 : A.tmps[132]? = some (x 113) := hA2 113 (by omega)
        obtain ⟨k132, f132, h132⟩ := hd 113 (by decide)
        replace f132 : x 113 = .bool true := f132
        clear h132
        rw [f132] at e132
        have e141 : A.tmps[141]? = some (x 122) := hA2 122 (by omega)
        obtain ⟨k141, f141, h141⟩ := hd 122 (by decide)
        replace f141 : x 122 = .bool true := f141
        clear h141
        rw [f141] at e141
        clear hA2 hX hd
        go_simp
        exact hK' _ _ (hK _ _ ⟨fun _ => 0, rfl, trivial⟩ (Below.refl _ _))
      · obtain rfl := Option.some.inj (ho.symm.trans rfl)
        clear ho
        have e142 : A.tmps[142]? = some (x 123) := hA2 123 (by omega)
        obtain ⟨k142, f142, h142⟩ := hd 123 (by decide)
        replace f142 : x 123 = .bool true := f142
        clear h142
        rw [f142] at e142
        clear hA2 hX hd
        go_simp
        exact hK' _ _ (hK _ _ ⟨fun _ => 0, rfl, trivial⟩ (Below.refl _ _))
    by_cases hc5 : i < 150
    · obtain rfl | rfl | rfl | rfl | rfl | rfl | rfl | rfl | rfl | rfl | rfl | rfl | rfl | rfl | rfl | rfl | rfl | rfl | rfl | rfl | rfl | rfl | rfl | rfl | rfl : i = 125 ∨ i = 126 ∨ i = 127 ∨ i = 128 ∨ i = 129 ∨ i = 130 ∨ i = 131 ∨ i = 132 ∨ i = 133 ∨ i = 134 ∨ i = 135 ∨ i = 136 ∨ i = 137 ∨ i = 138 ∨ i = 139 ∨ i = 140 ∨ i = 141 ∨ i = 142 ∨ i = 143 ∨ i = 144 ∨ i = 145 ∨ i = 146 ∨ i = 147 ∨ i = 148 ∨ i = 149 := by omega
      · obtain rfl := Option.some.inj (ho.symm.trans rfl)
        clear ho
        have e1 : A.tmps[1]? = some (.pointer (some ⟨w.heap.size, 0, none⟩)) := (hX 1 (by decide)).trans rfl
        have e143 : A.tmps[143]? = some (x 124) := hA2 124 (by omega)
        obtain ⟨k143, f143, h143⟩ := hd 124 (by decide)
        replace f143 : x 124 = .bool true := f143
        clear h143
        rw [f143] at e143
        clear hA2 hX hd
        have c0 := hs.1.cell 0
        have c1 := hs.1.cell 1
        have c2 := hs.1.cell 2
        go_simp
        exact hK' _ _ (hK _ _ ⟨fun _ => 0, rfl, trivial⟩ (Below.refl _ _))
      · obtain rfl := Option.some.inj (ho.symm.trans rfl)
        clear ho
        have e143 : A.tmps[143]? = some (x 124) := hA2 124 (by omega)
        obtain ⟨k143, f143, h143⟩ := hd 124 (by decide)
        replace f143 : x 124 = .bool true := f143
        clear h143
        rw [f143] at e143
        have e144 : A.tmps[144]? = some (x 125) := hA2 125 (by omega)
        obtain ⟨k144, f144, h144⟩ := hd 125 (by decide)
        replace f144 : x 125 = .agg #[.int .u8 0, .int .i64 0, .string ⟨#[]⟩] := f144
        clear h144
        rw [f144] at e144
        clear hA2 hX hd
        go_simp
        refine (mkis_any ((0, 0, ⟨#[]⟩) : Val) 0 _).mono ?_
        rintro e w6 ⟨g6, h6, rfl, hi6, hb6⟩
        exact hK' _ _ (hK _ _ ⟨kk4 g6 h6 0 0, rfl, hi6⟩ hb6)
      · obtain rfl := Option.some.inj (ho.symm.trans rfl)
        clear ho
        have e1 : A.tmps[1]? = some (.pointer (some ⟨w.heap.size, 0, none⟩)) := (hX 1 (by decide)).trans rfl
        have e143 : A.tmps[143]? = some (x 124) := hA2 124 (by omega)
        obtain ⟨k143, f143, h143⟩ := hd 124 (by decide)
        replace f143 : x 124 = .bool true := f143
        clear h143
        rw [f143] at e143
        clear hA2 hX hd
        have c0 := hs.1.cell 0
        have c1 := hs.1.cell 1
        have c2 := hs.1.cell 2
        go_simp
        exact hK' _ _ (hK _ _ ⟨fun _ => 0, rfl, trivial⟩ (Below.refl _ _))
      · obtain rfl := Option.some.inj (ho.symm.trans rfl)
        clear ho
        have e143 : A.tmps[143]? = some (x 124) := hA2 124 (by omega)
        obtain ⟨k143, f143, h143⟩ := hd 124 (by decide)
        replace f143 : x 124 = .bool true := f143
        clear h143
        rw [f143] at e143
        clear hA2 hX hd
        go_simp
        refine (mkNumber15 _ _).mono ?_
        rintro e w6 ⟨rfl, hb6⟩
        exact hK' _ _ (hK _ _ ⟨fun _ => 0, rfl, trivial⟩ hb6)
      · obtain rfl := Option.some.inj (ho.symm.trans rfl)
        clear ho
        have e143 : A.tmps[143]? = some (x 124) := hA2 124 (by omega)
        obtain ⟨k143, f143, h143⟩ := hd 124 (by decide)
        replace f143 : x 124 = .bool true := f143
        clear h143
        rw [f143] at e143
        have e146 : A.tmps[146]? = some (x 127) := hA2 127 (by omega)
        obtain ⟨k146, f146, h146⟩ := hd 127 (by decide)
        replace f146 : x 127 = .agg #[.int .u8 0, .int .i64 0, .string ⟨#[]⟩] := f146
        clear h146
        rw [f146] at e146
        have e147 : A.tmps[147]? = some (x 128) := hA2 128 (by omega)
        obtain ⟨k147, f147, h147⟩ := hd 128 (by decide)
        replace f147 : x 128 = .agg #[.int .u8 1, .int .i64 1, .string ⟨#[]⟩] := f147
        clear h147
        rw [f147] at e147
        clear hA2 hX hd
        go_simp
        refine (two_any 12 ((0, 0, ⟨#[]⟩) : Val) ((1, 1, ⟨#[]⟩) : Val) _).mono ?_
        rintro e w6 ⟨g6, rfl, hi6, hb6⟩
        exact hK' _ _ (hK _ _ ⟨kk4 g6 0 0 0, rfl, hi6⟩ hb6)
      · obtain rfl := Option.some.inj (ho.symm.trans rfl)
        clear ho
        have e143 : A.tmps[143]? = some (x 124) := hA2 124 (by omega)
        obtain ⟨k143, f143, h143⟩ := hd 124 (by decide)
        replace f143 : x 124 = .bool true := f143
        clear h143
        rw [f143] at e143
        have e148 : A.tmps[148]? = some (x 129) := hA2 129 (by omega)
        obtain ⟨k148, f148, h148⟩ := hd 129 (by decide)
        replace f148 : x 129 = .agg #[.int .u8 12, .int .u8 0, .int .i64 0, .string ⟨#[]⟩, .string ⟨#[]⟩, .string ⟨#[]⟩, .int .i64 0, .slice (some ⟨k148 0, 0, none⟩) 2 2] := f148
        replace h148 : prP (.kids [leafX ((0, 0, ⟨#[]⟩) : Val), leafX ((1, 1, ⟨#[]⟩) : Val)]) k148 W := h148
        rw [f148] at e148
        clear hA2 hX hd
        go_simp
        refine (ev_2 12 (by omega) ((0, 0, ⟨#[]⟩) : Val) ((1, 1, ⟨#[]⟩) : Val) vk_z (vk_n (1) (by omega)) (k148 0) W h148 (((0, 0, ⟨#[]⟩) : Val), 0) (by rfl)).mono ?_
        rintro e w6 ⟨rfl, hb6⟩
        exact hK' _ _ (hK _ _ ⟨fun _ => 0, rfl, trivial⟩ hb6)
      · obtain rfl := Option.some.inj (ho.symm.trans rfl)
        clear ho
        have e143 : A.tmps[143]? = some (x 124) := hA2 124 (by omega)
        obtain ⟨k143, f143, h143⟩ := hd 124 (by decide)
        replace f143 : x 124 = .bool true := f143
        clear h143
        rw [f143] at e143
        have e149 : A.tmps[149]? = some (x 130) := hA2 130 (by omega)
        obtain ⟨k149, f149, h149⟩ := hd 130 (by decide)
        replace f149 : x 130 = .tuple #[.agg #[.int .u8 0, .int .i64 0, .string ⟨#[]⟩], .int .i64 0] := f149
        clear h149
        rw [f149] at e149
        clear hA2 hX hd
        go_simp
        exact hK' _ _ (hK _ _ ⟨fun _ => 0, rfl, trivial⟩ (Below.refl _ _))
      · obtain rfl := Option.some.inj (ho.symm.trans rfl)
        clear ho
        have e143 : A.tmps[143]? = some (x 124) := hA2 124 (by omega)
        obtain ⟨k143, f143, h143⟩ := hd 124 (by decide)
        replace f143 : x 124 = .bool true := f143
        clear h143
        rw [f143] at e143
        have e149 : A.tmps[149]? = some (x 130) := hA2 130 (by omega)
        obtain ⟨k149, f149, h149⟩ := hd 130 (by decide)
        replace f149 : x 130 = .tuple #[.agg #[.int .u8 0, .int .i64 0, .string ⟨#[]⟩], .int .i64 0] := f149
        clear h149
        rw [f149] at e149
        clear hA2 hX hd
        go_simp
        exact hK' _ _ (hK _ _ ⟨fun _ => 0, rfl, trivial⟩ (Below.refl _ _))
      · obtain rfl := Option.some.inj (ho.symm.trans rfl)
        clear ho
        have e143 : A.tmps[143]? = some (x 124) := hA2 124 (by omega)
        obtain ⟨k143, f143, h143⟩ := hd 124 (by decide)
        replace f143 : x 124 = .bool true := f143
        clear h143
        rw [f143] at e143
        have e145 : A.tmps[145]? = some (x 126) := hA2 126 (by omega)
        obtain ⟨k145, f145, h145⟩ := hd 126 (by decide)
        replace f145 : x 126 = .func (.func 32) #[] #[.pointer (some ⟨k145 0, 0, none⟩), .pointer (some ⟨k145 1, 0, none⟩)] := f145
        replace h145 : prP (.is ((0, 0, ⟨#[]⟩) : Val) 0) k145 W := h145
        rw [f145] at e145
        have e150 : A.tmps[150]? = some (x 131) := hA2 131 (by omega)
        obtain ⟨k150, f150, h150⟩ := hd 131 (by decide)
        replace f150 : x 131 = .agg #[.int .u8 0, .int .i64 0, .string ⟨#[]⟩] := f150
        clear h150
        rw [f150] at e150
        have e151 : A.tmps[151]? = some (x 132) := hA2 132 (by omega)
        obtain ⟨k151, f151, h151⟩ := hd 132 (by decide)
        replace f151 : x 132 = .int .i64 0 := f151
        clear h151
        rw [f151] at e151
        clear hA2 hX hd
        go_simp
        refine (isf_yes ((0, 0, ⟨#[]⟩) : Val) 0 (k145 0) (k145 1) W h145).mono ?_
        rintro e w6 ⟨rfl, hb6⟩
        exact hK' _ _ (hK _ _ ⟨fun _ => 0, rfl, trivial⟩ hb6)
      · obtain rfl := Option.some.inj (ho.symm.trans rfl)
        clear ho
        have e143 : A.tmps[143]? = some (x 124) := hA2 124 (by omega)
        obtain ⟨k143, f143, h143⟩ := hd 124 (by decide)
        replace f143 : x 124 = .bool true := f143
        clear h143
        rw [f143] at e143
        have e152 : A.tmps[152]? = some (x 133) := hA2 133 (by omega)
        obtain ⟨k152, f152, h152⟩ := hd 133 (by decide)
        replace f152 : x 133 = .bool true := f152
        clear h152
        rw [f152] at e152
        clear hA2 hX hd
        go_simp
        exact hK' _ _ (hK _ _ ⟨fun _ => 0, rfl, trivial⟩ (Below.refl _ _))
      · obtain rfl := Option.some.inj (ho.symm.trans rfl)
        clear ho
        have e153 : A.tmps[153]? = some (x 134) := hA2 134 (by omega)
        obtain ⟨k153, f153, h153⟩ := hd 134 (by decide)
        replace f153 : x 134 = .bool true := f153
        clear h153
        rw [f153] at e153
        clear hA2 hX hd
        go_simp
        exact hK' _ _ (hK _ _ ⟨fun _ => 0, rfl, trivial⟩ (Below.refl _ _))
      · obtain rfl := Option.some.inj (ho.symm.trans rfl)
        clear ho
        have e1 : A.tmps[1]? = some (.pointer (some ⟨w.heap.size, 0, none⟩)) := (hX 1 (by decide)).trans rfl
        have e154 : A.tmps[154]? = some (x 135) := hA2 135 (by omega)
        obtain ⟨k154, f154, h154⟩ := hd 135 (by decide)
        replace f154 : x 135 = .bool true := f154
        clear h154
        rw [f154] at e154
        clear hA2 hX hd
        have c0 := hs.1.cell 0
        have c1 := hs.1.cell 1
        have c2 := hs.1.cell 2
        go_simp
        exact hK' _ _ (hK _ _ ⟨fun _ => 0, rfl, trivial⟩ (Below.refl _ _))
      · obtain rfl := Option.some.inj (ho.symm.trans rfl)
        clear ho
        have e154 : A.tmps[154]? = some (x 135) := hA2 135 (by omega)
        obtain ⟨k154, f154, h154⟩ := hd 135 (by decide)
        replace f154 : x 135 = .bool true := f154
        clear h154
        rw [f154] at e154
        have e155 : A.tmps[155]? = some (x 136) := hA2 136 (by omega)
        obtain ⟨k155, f155, h155⟩ := hd 136 (by decide)
        replace f155 : x 136 = .agg #[.int .u8 0, .int .i64 0, .string ⟨#[]⟩] := f155
        clear h155
        rw [f155] at e155
        clear hA2 hX hd
        go_simp
        refine (mkis_any ((0, 0, ⟨#[]⟩) : Val) 150 _).mono ?_
        rintro e w6 ⟨g6, h6, rfl, hi6, hb6⟩
        exact hK' _ _ (hK _ _ ⟨kk4 g6 h6 0 0, rfl, hi6⟩ hb6)
      · obtain rfl := Option.some.inj (ho.symm.trans rfl)
        clear ho
        have e154 : A.tmps[154]? = some (x 135) := hA2 135 (by omega)
        obtain ⟨k154, f154, h154⟩ := hd 135 (by decide)
        replace f154 : x 135 = .bool true := f154
        clear h154
        rw [f154] at e154
        clear hA2 hX hd
        go_simp
        refine (mkNumber15 _ _).mono ?_
        rintro e w6 ⟨rfl, hb6⟩
        exact hK' _ _ (hK _ _ ⟨fun _ => 0, rfl, trivial⟩ hb6)
      · obtain rfl := Option.some.inj (ho.symm.trans rfl)
        clear ho
        have e154 : A.tmps[154]? = some (x 135) := hA2 135 (by omega)
        obtain ⟨k154, f154, h154⟩ := hd 135 (by decide)
        replace f154 : x 135 = .bool true := f154
        clear h154
        rw [f154] at e154
        clear hA2 hX hd
        go_simp
        refine (text15_any _ _).mono ?_
        rintro e w6 ⟨rfl, hb6⟩
        exact hK' _ _ (hK _ _ ⟨fun _ => 0, rfl, trivial⟩ hb6)
      · obtain rfl := Option.some.inj (ho.symm.trans rfl)
        clear ho
        have e154 : A.tmps[154]? = some (x 135) := hA2 135 (by omega)
        obtain ⟨k154, f154, h154⟩ := hd 135 (by decide)
        replace f154 : x 135 = .bool true := f154
        clear h154
        rw [f154] at e154
        have e157 : A.tmps[157]? = some (x 138) := hA2 138 (by omega)
        obtain ⟨k157, f157, h157⟩ := hd 138 (by decide)
        replace f157 : x 138 = .agg #[.int .u8 1, .int .i64 1, .string ⟨#[]⟩] := f157
        clear h157
        rw [f157] at e157
        have e158 : A.tmps[158]? = some (x 139) := hA2 139 (by omega)
        obtain ⟨k158, f158, h158⟩ := hd 139 (by decide)
        replace f158 : x 139 = .agg #[.int .u8 2, .int .i64 0, .string ⟨#[97]⟩] := f158
        clear h158
        rw [f158] at e158
        clear hA2 hX hd
        go_simp
        refine (two_any 6 ((1, 1, ⟨#[]⟩) : Val) ((2, 0, ⟨#[97]⟩) : Val) _).mono ?_
        rintro e w6 ⟨g6, rfl, hi6, hb6⟩
        exact hK' _ _ (hK _ _ ⟨kk4 g6 0 0 0, rfl, hi6⟩ hb6)
      · obtain rfl := Option.some.inj (ho.symm.trans rfl)
        clear ho
        have e154 : A.tmps[154]? = some (x 135) := hA2 135 (by omega)
        obtain ⟨k154, f154, h154⟩ := hd 135 (by decide)
        replace f154 : x 135 = .bool true := f154
        clear h154
        rw [f154] at e154
        have e159 : A.tmps[159]? = some (x 140) := hA2 140 (by omega)
        obtain ⟨k159, f159, h159⟩ := hd 140 (by decide)
        replace f159 : x 140 = .agg #[.int .u8 6, .int .u8 0, .int .i64 0, .string ⟨#[]⟩, .string ⟨#[]⟩, .string ⟨#[]⟩, .int .i64 0, .slice (some ⟨k159 0, 0, none⟩) 2 2] := f159
        replace h159 : prP (.kids [leafX ((1, 1, ⟨#[]⟩) : Val), leafX ((2, 0, ⟨#[97]⟩) : Val)]) k159 W := h159
        rw [f159] at e159
        clear hA2 hX hd
        go_simp
        refine (ev_2 6 (by omega) ((1, 1, ⟨#[]⟩) : Val) ((2, 0, ⟨#[97]⟩) : Val) (vk_n (1) (by omega)) (vk_t 97) (k159 0) W h159 (((0, 0, ⟨#[]⟩) : Val), 150) (by rfl)).mono ?_
        rintro e w6 ⟨rfl, hb6⟩
        exact hK' _ _ (hK _ _ ⟨fun _ => 0, rfl, trivial⟩ hb6)
      · obtain rfl := Option.some.inj (ho.symm.trans rfl)
        clear ho
        have e154 : A.tmps[154]? = some (x 135) := hA2 135 (by omega)
        obtain ⟨k154, f154, h154⟩ := hd 135 (by decide)
        replace f154 : x 135 = .bool true := f154
        clear h154
        rw [f154] at e154
        have e160 : A.tmps[160]? = some (x 141) := hA2 141 (by omega)
        obtain ⟨k160, f160, h160⟩ := hd 141 (by decide)
        replace f160 : x 141 = .tuple #[.agg #[.int .u8 0, .int .i64 0, .string ⟨#[]⟩], .int .i64 150] := f160
        clear h160
        rw [f160] at e160
        clear hA2 hX hd
        go_simp
        exact hK' _ _ (hK _ _ ⟨fun _ => 0, rfl, trivial⟩ (Below.refl _ _))
      · obtain rfl := Option.some.inj (ho.symm.trans rfl)
        clear ho
        have e154 : A.tmps[154]? = some (x 135) := hA2 135 (by omega)
        obtain ⟨k154, f154, h154⟩ := hd 135 (by decide)
        replace f154 : x 135 = .bool true := f154
        clear h154
        rw [f154] at e154
        have e160 : A.tmps[160]? = some (x 141) := hA2 141 (by omega)
        obtain ⟨k160, f160, h160⟩ := hd 141 (by decide)
        replace f160 : x 141 = .tuple #[.agg #[.int .u8 0, .int .i64 0, .string ⟨#[]⟩], .int .i64 150] := f160
        clear h160
        rw [f160] at e160
        clear hA2 hX hd
        go_simp
        exact hK' _ _ (hK _ _ ⟨fun _ => 0, rfl, trivial⟩ (Below.refl _ _))
      · obtain rfl := Option.some.inj (ho.symm.trans rfl)
        clear ho
        have e154 : A.tmps[154]? = some (x 135) := hA2 135 (by omega)
        obtain ⟨k154, f154, h154⟩ := hd 135 (by decide)
        replace f154 : x 135 = .bool true := f154
        clear h154
        rw [f154] at e154
        have e156 : A.tmps[156]? = some (x 137) := hA2 137 (by omega)
        obtain ⟨k156, f156, h156⟩ := hd 137 (by decide)
        replace f156 : x 137 = .func (.func 32) #[] #[.pointer (some ⟨k156 0, 0, none⟩), .pointer (some ⟨k156 1, 0, none⟩)] := f156
        replace h156 : prP (.is ((0, 0, ⟨#[]⟩) : Val) 150) k156 W := h156
        rw [f156] at e156
        have e161 : A.tmps[161]? = some (x 142) := hA2 142 (by omega)
        obtain ⟨k161, f161, h161⟩ := hd 142 (by decide)
        replace f161 : x 142 = .agg #[.int .u8 0, .int .i64 0, .string ⟨#[]⟩] := f161
        clear h161
        rw [f161] at e161
        have e162 : A.tmps[162]? = some (x 143) := hA2 143 (by omega)
        obtain ⟨k162, f162, h162⟩ := hd 143 (by decide)
        replace f162 : x 143 = .int .i64 150 := f162
        clear h162
        rw [f162] at e162
        clear hA2 hX hd
        go_simp
        refine (isf_yes ((0, 0, ⟨#[]⟩) : Val) 150 (k156 0) (k156 1) W h156).mono ?_
        rintro e w6 ⟨rfl, hb6⟩
        exact hK' _ _ (hK _ _ ⟨fun _ => 0, rfl, trivial⟩ hb6)
      · obtain rfl := Option.some.inj (ho.symm.trans rfl)
        clear ho
        have e154 : A.tmps[154]? = some (x 135) := hA2 135 (by omega)
        obtain ⟨k154, f154, h154⟩ := hd 135 (by decide)
        replace f154 : x 135 = .bool true := f154
        clear h154
        rw [f154] at e154
        have e163 : A.tmps[163]? = some (x 144) := hA2 144 (by omega)
        obtain ⟨k163, f163, h163⟩ := hd 144 (by decide)
        replace f163 : x 144 = .bool true := f163
        clear h163
        rw [f163] at e163
        clear hA2 hX hd
        go_simp
        exact hK' _ _ (hK _ _ ⟨fun _ => 0, rfl, trivial⟩ (Below.refl _ _))
      · obtain rfl := Option.some.inj (ho.symm.trans rfl)
        clear ho
        have e164 : A.tmps[164]? = some (x 145) := hA2 145 (by omega)
        obtain ⟨k164, f164, h164⟩ := hd 145 (by decide)
        replace f164 : x 145 = .bool true := f164
        clear h164
        rw [f164] at e164
        clear hA2 hX hd
        go_simp
        exact hK' _ _ (hK _ _ ⟨fun _ => 0, rfl, trivial⟩ (Below.refl _ _))
      · obtain rfl := Option.some.inj (ho.symm.trans rfl)
        clear ho
        have e2 : A.tmps[2]? = some (.int .u8 0) := (hX 2 (by decide)).trans rfl
        have e165 : A.tmps[165]? = some (x 146) := hA2 146 (by omega)
        obtain ⟨k165, f165, h165⟩ := hd 146 (by decide)
        replace f165 : x 146 = .bool true := f165
        clear h165
        rw [f165] at e165
        clear hA2 hX hd
        go_simp
        exact hK' _ _ (hK _ _ ⟨fun _ => 0, rfl, trivial⟩ (Below.refl _ _))
      · obtain rfl := Option.some.inj (ho.symm.trans rfl)
        clear ho
        have e165 : A.tmps[165]? = some (x 146) := hA2 146 (by omega)
        obtain ⟨k165, f165, h165⟩ := hd 146 (by decide)
        replace f165 : x 146 = .bool true := f165
        clear h165
        rw [f165] at e165
        have e166 : A.tmps[166]? = some (x 147) := hA2 147 (by omega)
        obtain ⟨k166, f166, h166⟩ := hd 147 (by decide)
        replace f166 : x 147 = .int .u8 0 := f166
        clear h166
        rw [f166] at e166
        clear hA2 hX hd
        go_simp
        exact hK' _ _ (hK _ _ ⟨fun _ => 0, rfl, trivial⟩ (Below.refl _ _))
      · obtain rfl := Option.some.inj (ho.symm.trans rfl)
        clear ho
        have e165 : A.tmps[165]? = some (x 146) := hA2 146 (by omega)
        obtain ⟨k165, f165, h165⟩ := hd 146 (by decide)
        replace f165 : x 146 = .bool true := f165
        clear h165
        rw [f165] at e165
        have e167 : A.tmps[167]? = some (x 148) := hA2 148 (by omega)
        obtain ⟨k167, f167, h167⟩ := hd 148 (by decide)
        replace f167 : x 148 = .bool true := f167
        clear h167
        rw [f167] at e167
        clear hA2 hX hd
        go_simp
        exact hK' _ _ (hK _ _ ⟨fun _ => 0, rfl, trivial⟩ (Below.refl _ _))
    by_cases hc6 : i < 175
    · obtain rfl | rfl | rfl | rfl | rfl | rfl | rfl | rfl | rfl | rfl | rfl | rfl | rfl | rfl | rfl | rfl | rfl | rfl | rfl | rfl | rfl | rfl | rfl | rfl | rfl : i = 150 ∨ i = 151 ∨ i = 152 ∨ i = 153 ∨ i = 154 ∨ i = 155 ∨ i = 156 ∨ i = 157 ∨ i = 158 ∨ i = 159 ∨ i = 160 ∨ i = 161 ∨ i = 162 ∨ i = 163 ∨ i = 164 ∨ i = 165 ∨ i = 166 ∨ i = 167 ∨ i = 168 ∨ i = 169 ∨ i = 170 ∨ i = 171 ∨ i = 172 ∨ i = 173 ∨ i = 174 := by omega
      · obtain rfl := Option.some.inj (ho.symm.trans rfl)
        clear ho
        have e168 : A.tmps[168]? = some (x 149) := hA2 149 (by omega)
        obtain ⟨k168, f168, h168⟩ := hd 149 (by decide)
        replace f168 : x 149 = .bool true := f168
        clear h168
        rw [f168] at e168
        clear hA2 hX hd
        go_simp
        exact hK' _ _ (hK _ _ ⟨fun _ => 0, rfl, trivial⟩ (Below.refl _ _))
      · obtain rfl := Option.some.inj (ho.symm.trans rfl)
        clear ho
        have e3 : A.tmps[3]? = some (.int .i64 151) := (hX 3 (by decide)).trans rfl
        have e169 : A.tmps[169]? = some (x 150) := hA2 150 (by omega)
        obtain ⟨k169, f169, h169⟩ := hd 150 (by decide)
        replace f169 : x 150 = .bool true := f169
        clear h169
        rw [f169] at e169
        clear hA2 hX hd
        go_simp
        exact hK' _ _ (hK _ _ ⟨fun _ => 0, rfl, trivial⟩ (Below.refl _ _))
      · obtain rfl := Option.some.inj (ho.symm.trans rfl)
        clear ho
        have e169 : A.tmps[169]? = some (x 150) := hA2 150 (by omega)
        obtain ⟨k169, f169, h169⟩ := hd 150 (by decide)
        replace f169 : x 150 = .bool true := f169
        clear h169
        rw [f169] at e169
        have e170 : A.tmps[170]? = some (x 151) := hA2 151 (by omega)
        obtain ⟨k170, f170, h170⟩ := hd 151 (by decide)
        replace f170 : x 151 = .int .i64 151 := f170
        clear h170
        rw [f170] at e170
        clear hA2 hX hd
        go_simp
        exact hK' _ _ (hK _ _ ⟨fun _ => 0, rfl, trivial⟩ (Below.refl _ _))
      · obtain rfl := Option.some.inj (ho.symm.trans rfl)
        clear ho
        have e169 : A.tmps[169]? = some (x 150) := hA2 150 (by omega)
        obtain ⟨k169, f169, h169⟩ := hd 150 (by decide)
        replace f169 : x 150 = .bool true := f169
        clear h169
        rw [f169] at e169
        have e171 : A.tmps[171]? = some (x 152) := hA2 152 (by omega)
        obtain ⟨k171, f171, h171⟩ := hd 152 (by decide)
        replace f171 : x 152 = .bool true := f171
        clear h171
        rw [f171] at e171
        clear hA2 hX hd
        go_simp
        exact hK' _ _ (hK _ _ ⟨fun _ => 0, rfl, trivial⟩ (Below.refl _ _))
      · obtain rfl := Option.some.inj (ho.symm.trans rfl)
        clear ho
        have e172 : A.tmps[172]? = some (x 153) := hA2 153 (by omega)
        obtain ⟨k172, f172, h172⟩ := hd 153 (by decide)
        replace f172 : x 153 = .bool true := f172
        clear h172
        rw [f172] at e172
        clear hA2 hX hd
        go_simp
        exact hK' _ _ (hK _ _ ⟨fun _ => 0, rfl, trivial⟩ (Below.refl _ _))
      · obtain rfl := Option.some.inj (ho.symm.trans rfl)
        clear ho
        have e4 : A.tmps[4]? = some (.int .u8 0) := (hX 4 (by decide)).trans rfl
        have e173 : A.tmps[173]? = some (x 154) := hA2 154 (by omega)
        obtain ⟨k173, f173, h173⟩ := hd 154 (by decide)
        replace f173 : x 154 = .bool true := f173
        clear h173
        rw [f173] at e173
        clear hA2 hX hd
        go_simp
        exact hK' _ _ (hK _ _ ⟨fun _ => 0, rfl, trivial⟩ (Below.refl _ _))
      · obtain rfl := Option.some.inj (ho.symm.trans rfl)
        clear ho
        have e173 : A.tmps[173]? = some (x 154) := hA2 154 (by omega)
        obtain ⟨k173, f173, h173⟩ := hd 154 (by decide)
        replace f173 : x 154 = .bool true := f173
        clear h173
        rw [f173] at e173
        have e174 : A.tmps[174]? = some (x 155) := hA2 155 (by omega)
        obtain ⟨k174, f174, h174⟩ := hd 155 (by decide)
        replace f174 : x 155 = .int .u8 0 := f174
        clear h174
        rw [f174] at e174
        clear hA2 hX hd
        go_simp
        exact hK' _ _ (hK _ _ ⟨fun _ => 0, rfl, trivial⟩ (Below.refl _ _))
      · obtain rfl := Option.some.inj (ho.symm.trans rfl)
        clear ho
        have e173 : A.tmps[173]? = some (x 154) := hA2 154 (by omega)
        obtain ⟨k173, f173, h173⟩ := hd 154 (by decide)
        replace f173 : x 154 = .bool true := f173
        clear h173
        rw [f173] at e173
        have e175 : A.tmps[175]? = some (x 156) := hA2 156 (by omega)
        obtain ⟨k175, f175, h175⟩ := hd 156 (by decide)
        replace f175 : x 156 = .bool true := f175
        clear h175
        rw [f175] at e175
        clear hA2 hX hd
        go_simp
        exact hK' _ _ (hK _ _ ⟨fun _ => 0, rfl, trivial⟩ (Below.refl _ _))
      · obtain rfl := Option.some.inj (ho.symm.trans rfl)
        clear ho
        have e176 : A.tmps[176]? = some (x 157) := hA2 157 (by omega)
        obtain ⟨k176, f176, h176⟩ := hd 157 (by decide)
        replace f176 : x 157 = .bool true := f176
        clear h176
        rw [f176] at e176
        clear hA2 hX hd
        go_simp
        exact hK' _ _ (hK _ _ ⟨fun _ => 0, rfl, trivial⟩ (Below.refl _ _))
      · obtain rfl := Option.some.inj (ho.symm.trans rfl)
        clear ho
        have e5 : A.tmps[5]? = some (.int .i64 151) := (hX 5 (by decide)).trans rfl
        have e177 : A.tmps[177]? = some (x 158) := hA2 158 (by omega)
        obtain ⟨k177, f177, h177⟩ := hd 158 (by decide)
        replace f177 : x 158 = .bool true := f177
        clear h177
        rw [f177] at e177
        clear hA2 hX hd
        go_simp
        exact hK' _ _ (hK _ _ ⟨fun _ => 0, rfl, trivial⟩ (Below.refl _ _))
      · obtain rfl := Option.some.inj (ho.symm.trans rfl)
        clear ho
        have e177 : A.tmps[177]? = some (x 158) := hA2 158 (by omega)
        obtain ⟨k177, f177, h177⟩ := hd 158 (by decide)
        replace f177 : x 158 = .bool true := f177
        clear h177
        rw [f177] at e177
        have e178 : A.tmps[178]? = some (x 159) := hA2 159 (by omega)
        obtain ⟨k178, f178, h178⟩ := hd 159 (by decide)
        replace f178 : x 159 = .int .i64 151 := f178
        clear h178
        rw [f178] at e178
        clear hA2 hX hd
        go_simp
        exact hK' _ _ (hK _ _ ⟨fun _ => 0, rfl, trivial⟩ (Below.refl _ _))
      · obtain rfl := Option.some.inj (ho.symm.trans rfl)
        clear ho
        have e177 : A.tmps[177]? = some (x 158) := hA2 158 (by omega)
        obtain ⟨k177, f177, h177⟩ := hd 158 (by decide)
        replace f177 : x 158 = .bool true := f177
        clear h177
        rw [f177] at e177
        have e179 : A.tmps[179]? = some (x 160) := hA2 160 (by omega)
        obtain ⟨k179, f179, h179⟩ := hd 160 (by decide)
        replace f179 : x 160 = .bool true := f179
        clear h179
        rw [f179] at e179
        clear hA2 hX hd
        go_simp
        exact hK' _ _ (hK _ _ ⟨fun _ => 0, rfl, trivial⟩ (Below.refl _ _))
      · obtain rfl := Option.some.inj (ho.symm.trans rfl)
        clear ho
        have e180 : A.tmps[180]? = some (x 161) := hA2 161 (by omega)
        obtain ⟨k180, f180, h180⟩ := hd 161 (by decide)
        replace f180 : x 161 = .bool true := f180
        clear h180
        rw [f180] at e180
        clear hA2 hX hd
        go_simp
        exact hK' _ _ (hK _ _ ⟨fun _ => 0, rfl, trivial⟩ (Below.refl _ _))
      · obtain rfl := Option.some.inj (ho.symm.trans rfl)
        clear ho
        have e181 : A.tmps[181]? = some (x 162) := hA2 162 (by omega)
        obtain ⟨k181, f181, h181⟩ := hd 162 (by decide)
        replace f181 : x 162 = .bool true := f181
        clear h181
        rw [f181] at e181
        clear hA2 hX hd
        go_simp
        refine (mkNumber15 _ _).mono ?_
        rintro e w6 ⟨rfl, hb6⟩
        exact hK' _ _ (hK _ _ ⟨fun _ => 0, rfl, trivial⟩ hb6)
      · obtain rfl := Option.some.inj (ho.symm.trans rfl)
        clear ho
        have e181 : A.tmps[181]? = some (x 162) := hA2 162 (by omega)
        obtain ⟨k181, f181, h181⟩ := hd 162 (by decide)
        replace f181 : x 162 = .bool true := f181
        clear h181
        rw [f181] at e181
        have e182 : A.tmps[182]? = some (x 163) := hA2 163 (by omega)
        obtain ⟨k182, f182, h182⟩ := hd 163 (by decide)
        replace f182 : x 163 = .agg #[.int .u8 1, .int .i64 3, .string ⟨#[]⟩] := f182
        clear h182
        rw [f182] at e182
        clear hA2 hX hd
        go_simp
        refine (mkis_any ((1, 3, ⟨#[]⟩) : Val) 0 _).mono ?_
        rintro e w6 ⟨g6, h6, rfl, hi6, hb6⟩
        exact hK' _ _ (hK _ _ ⟨kk4 g6 h6 0 0, rfl, hi6⟩ hb6)
      · obtain rfl := Option.some.inj (ho.symm.trans rfl)
        clear ho
        have e181 : A.tmps[181]? = some (x 162) := hA2 162 (by omega)
        obtain ⟨k181, f181, h181⟩ := hd 162 (by decide)
        replace f181 : x 162 = .bool true := f181
        clear h181
        rw [f181] at e181
        clear hA2 hX hd
        go_simp
        refine (column_any 0 _).mono ?_
        rintro e w6 ⟨rfl, hb6⟩
        exact hK' _ _ (hK _ _ ⟨fun _ => 0, rfl, trivial⟩ hb6)
      · obtain rfl := Option.some.inj (ho.symm.trans rfl)
        clear ho
        have e181 : A.tmps[181]? = some (x 162) := hA2 162 (by omega)
        obtain ⟨k181, f181, h181⟩ := hd 162 (by decide)
        replace f181 : x 162 = .bool true := f181
        clear h181
        rw [f181] at e181
        have e184 : A.tmps[184]? = some (x 165) := hA2 165 (by omega)
        obtain ⟨k184, f184, h184⟩ := hd 165 (by decide)
        replace f184 : x 165 = .agg #[.int .u8 2, .int .u8 0, .int .i64 0, .string ⟨#[]⟩, .string ⟨#[]⟩, .string ⟨#[]⟩, .int .i64 0, .slice none 0 0] := f184
        clear h184
        rw [f184] at e184
        clear hA2 hX hd
        go_simp
        exact hK' _ _ (hK _ _ ⟨kk4 W.heap.size 0 0 0, rfl, kids_1 (x := colX 0) (Blk.new _ _ _)⟩ one_alloc)
      · obtain rfl := Option.some.inj (ho.symm.trans rfl)
        clear ho
        have e181 : A.tmps[181]? = some (x 162) := hA2 162 (by omega)
        obtain ⟨k181, f181, h181⟩ := hd 162 (by decide)
        replace f181 : x 162 = .bool true := f181
        clear h181
        rw [f181] at e181
        have e185 : A.tmps[185]? = some (x 166) := hA2 166 (by omega)
        obtain ⟨k185, f185, h185⟩ := hd 166 (by decide)
        replace f185 : x 166 = .slice (some ⟨k185 0, 0, none⟩) 1 1 := f185
        replace h185 : prP (.kids [colX 0]) k185 W := h185
        rw [f185] at e185
        clear hA2 hX hd
        go_simp
        refine (mkof_any 21 (some ⟨k185 0, 0, none⟩) 1 1 _).mono ?_
        rintro e w6 ⟨rfl, hb6⟩
        exact hK' _ _ (hK _ _ ⟨k185, rfl, prp_step h185 hb6⟩ hb6)
      · obtain rfl := Option.some.inj (ho.symm.trans rfl)
        clear ho
        have e181 : A.tmps[181]? = some (x 162) := hA2 162 (by omega)
        obtain ⟨k181, f181, h181⟩ := hd 162 (by decide)
        replace f181 : x 162 = .bool true := f181
        clear h181
        rw [f181] at e181
        clear hA2 hX hd
        go_simp
        refine (mkNumber15 _ _).mono ?_
        rintro e w6 ⟨rfl, hb6⟩
        exact hK' _ _ (hK _ _ ⟨fun _ => 0, rfl, trivial⟩ hb6)
      · obtain rfl := Option.some.inj (ho.symm.trans rfl)
        clear ho
        have e181 : A.tmps[181]? = some (x 162) := hA2 162 (by omega)
        obtain ⟨k181, f181, h181⟩ := hd 162 (by decide)
        replace f181 : x 162 = .bool true := f181
        clear h181
        rw [f181] at e181
        have e187 : A.tmps[187]? = some (x 168) := hA2 168 (by omega)
        obtain ⟨k187, f187, h187⟩ := hd 168 (by decide)
        replace f187 : x 168 = .agg #[.int .u8 1, .int .i64 1, .string ⟨#[]⟩] := f187
        clear h187
        rw [f187] at e187
        clear hA2 hX hd
        go_simp
        exact hK' _ _ (hK _ _ ⟨kk4 W.heap.size 0 0 0, rfl, vals_of1 (x := ((1, 1, ⟨#[]⟩) : Val)) (Blk.new _ _ _)⟩ one_alloc)
      · obtain rfl := Option.some.inj (ho.symm.trans rfl)
        clear ho
        have e1 : A.tmps[1]? = some (.pointer (some ⟨w.heap.size, 0, none⟩)) := (hX 1 (by decide)).trans rfl
        have e181 : A.tmps[181]? = some (x 162) := hA2 162 (by omega)
        obtain ⟨k181, f181, h181⟩ := hd 162 (by decide)
        replace f181 : x 162 = .bool true := f181
        clear h181
        rw [f181] at e181
        clear hA2 hX hd
        have c0 := hs.1.cell 0
        have c1 := hs.1.cell 1
        have c2 := hs.1.cell 2
        go_simp
        exact hK' _ _ (hK _ _ ⟨fun _ => 0, rfl, trivial⟩ (Below.refl _ _))
      · obtain rfl := Option.some.inj (ho.symm.trans rfl)
        clear ho
        have e181 : A.tmps[181]? = some (x 162) := hA2 162 (by omega)
        obtain ⟨k181, f181, h181⟩ := hd 162 (by decide)
        replace f181 : x 162 = .bool true := f181
        clear h181
        rw [f181] at e181
        have e189 : A.tmps[189]? = some (x 170) := hA2 170 (by omega)
        obtain ⟨k189, f189, h189⟩ := hd 170 (by decide)
        replace f189 : x 170 = .agg #[.int .u8 0, .int .i64 0, .string ⟨#[]⟩] := f189
        clear h189
        rw [f189] at e189
        clear hA2 hX hd
        go_simp
        exact hK' _ _ (hK _ _ ⟨kk4 W.heap.size 0 0 0, rfl, vals_of1 (x := ((0, 0, ⟨#[]⟩) : Val)) (Blk.new _ _ _)⟩ one_alloc)
      · obtain rfl := Option.some.inj (ho.symm.trans rfl)
        clear ho
        have e181 : A.tmps[181]? = some (x 162) := hA2 162 (by omega)
        obtain ⟨k181, f181, h181⟩ := hd 162 (by decide)
        replace f181 : x 162 = .bool true := f181
        clear h181
        rw [f181] at e181
        clear hA2 hX hd
        go_simp
        refine (mkNumber15 _ _).mono ?_
        rintro e w6 ⟨rfl, hb6⟩
        exact hK' _ _ (hK _ _ ⟨fun _ => 0, rfl, trivial⟩ hb6)
      · obtain rfl := Option.some.inj (ho.symm.trans rfl)
        clear ho
        have e181 : A.tmps[181]? = some (x 162) := hA2 162 (by omega)
        obtain ⟨k181, f181, h181⟩ := hd 162 (by decide)
        replace f181 : x 162 = .bool true := f181
        clear h181
        rw [f181] at e181
        have e191 : A.tmps[191]? = some (x 172) := hA2 172 (by omega)
        obtain ⟨k191, f191, h191⟩ := hd 172 (by decide)
        replace f191 : x 172 = .agg #[.int .u8 1, .int .i64 2, .string ⟨#[]⟩] := f191
        clear h191
        rw [f191] at e191
        clear hA2 hX hd
        go_simp
        exact hK' _ _ (hK _ _ ⟨kk4 W.heap.size 0 0 0, rfl, vals_of1 (x := ((1, 2, ⟨#[]⟩) : Val)) (Blk.new _ _ _)⟩ one_alloc)
      · obtain rfl := Option.some.inj (ho.symm.trans rfl)
        clear ho
        have e181 : A.tmps[181]? = some (x 162) := hA2 162 (by omega)
        obtain ⟨k181, f181, h181⟩ := hd 162 (by decide)
        replace f181 : x 162 = .bool true := f181
        clear h181
        rw [f181] at e181
        have e188 : A.tmps[188]? = some (x 169) := hA2 169 (by omega)
        obtain ⟨k188, f188, h188⟩ := hd 169 (by decide)
        replace f188 : x 169 = .slice (some ⟨k188 0, 0, none⟩) 1 1 := f188
        replace h188 : prP (.row [((1, 1, ⟨#[]⟩) : Val)]) k188 W := h188
        rw [f188] at e188
        have e190 : A.tmps[190]? = some (x 171) := hA2 171 (by omega)
        obtain ⟨k190, f190, h190⟩ := hd 171 (by decide)
        replace f190 : x 171 = .slice (some ⟨k190 0, 0, none⟩) 1 1 := f190
        replace h190 : prP (.row [((0, 0, ⟨#[]⟩) : Val)]) k190 W := h190
        rw [f190] at e190
        have e192 : A.tmps[192]? = some (x 173) := hA2 173 (by omega)
        obtain ⟨k192, f192, h192⟩ := hd 173 (by decide)
        replace f192 : x 173 = .slice (some ⟨k192 0, 0, none⟩) 1 1 := f192
        replace h192 : prP (.row [((1, 2, ⟨#[]⟩) : Val)]) k192 W := h192
        rw [f192] at e192
        clear hA2 hX hd
        go_simp
        exact hK' _ _ (hK _ _ ⟨kk4 W.heap.size (k188 0) (k190 0) (k192 0), rfl, rws_3 (Blk.new _ _ _) (vals_step h188 one_alloc) (vals_step h190 one_alloc) (vals_step h192 one_alloc)⟩ one_alloc)
    by_cases hc7 : i < 200
    · obtain rfl | rfl | rfl | rfl | rfl | rfl | rfl | rfl | rfl | rfl | rfl | rfl | rfl | rfl | rfl | rfl | rfl | rfl | rfl | rfl | rfl | rfl | rfl | rfl | rfl : i = 175 ∨ i = 176 ∨ i = 177 ∨ i = 178 ∨ i = 179 ∨ i = 180 ∨ i = 181 ∨ i = 182 ∨ i = 183 ∨ i = 184 ∨ i = 185 ∨ i = 186 ∨ i = 187 ∨ i = 188 ∨ i = 189 ∨ i = 190 ∨ i = 191 ∨ i = 192 ∨ i = 193 ∨ i = 194 ∨ i = 195 ∨ i = 196 ∨ i = 197 ∨ i = 198 ∨ i = 199 := by omega
      · obtain rfl := Option.some.inj (ho.symm.trans rfl)
        clear ho
        have e181 : A.tmps[181]? = some (x 162) := hA2 162 (by omega)
        obtain ⟨k181, f181, h181⟩ := hd 162 (by decide)
        replace f181 : x 162 = .bool true := f181
        clear h181
        rw [f181] at e181
        have e186 : A.tmps[186]? = some (x 167) := hA2 167 (by omega)
        obtain ⟨k186, f186, h186⟩ := hd 167 (by decide)
        replace f186 : x 167 = .agg #[.int .u8 21, .int .u8 0, .int .i64 0, .string ⟨#[]⟩, .string ⟨#[]⟩, .string ⟨#[]⟩, .int .i64 0, .slice (some ⟨k186 0, 0, none⟩) 1 1] := f186
        replace h186 : prP (.kids [colX 0]) k186 W := h186
        rw [f186] at e186
        have e193 : A.tmps[193]? = some (x 174) := hA2 174 (by omega)
        obtain ⟨k193, f193, h193⟩ := hd 174 (by decide)
        replace f193 : x 174 = .slice (some ⟨k193 0, 0, none⟩) 3 3 := f193
        replace h193 : prP (.rows ((1, 1, ⟨#[]⟩) : Val) ((0, 0, ⟨#[]⟩) : Val) ((1, 2, ⟨#[]⟩) : Val)) k193 W := h193
        rw [f193] at e193
        clear hA2 hX hd
        go_simp
        refine (fold_3 (k186 0) k193 W h186 h193).mono ?_
        rintro e w6 ⟨rfl, hb6⟩
        exact hK' _ _ (hK _ _ ⟨fun _ => 0, rfl, trivial⟩ hb6)
      · obtain rfl := Option.some.inj (ho.symm.trans rfl)
        clear ho
        have e181 : A.tmps[181]? = some (x 162) := hA2 162 (by omega)
        obtain ⟨k181, f181, h181⟩ := hd 162 (by decide)
        replace f181 : x 162 = .bool true := f181
        clear h181
        rw [f181] at e181
        have e194 : A.tmps[194]? = some (x 175) := hA2 175 (by omega)
        obtain ⟨k194, f194, h194⟩ := hd 175 (by decide)
        replace f194 : x 175 = .tuple #[.agg #[.int .u8 1, .int .i64 3, .string ⟨#[]⟩], .int .i64 0] := f194
        clear h194
        rw [f194] at e194
        clear hA2 hX hd
        go_simp
        exact hK' _ _ (hK _ _ ⟨fun _ => 0, rfl, trivial⟩ (Below.refl _ _))
      · obtain rfl := Option.some.inj (ho.symm.trans rfl)
        clear ho
        have e181 : A.tmps[181]? = some (x 162) := hA2 162 (by omega)
        obtain ⟨k181, f181, h181⟩ := hd 162 (by decide)
        replace f181 : x 162 = .bool true := f181
        clear h181
        rw [f181] at e181
        have e194 : A.tmps[194]? = some (x 175) := hA2 175 (by omega)
        obtain ⟨k194, f194, h194⟩ := hd 175 (by decide)
        replace f194 : x 175 = .tuple #[.agg #[.int .u8 1, .int .i64 3, .string ⟨#[]⟩], .int .i64 0] := f194
        clear h194
        rw [f194] at e194
        clear hA2 hX hd
        go_simp
        exact hK' _ _ (hK _ _ ⟨fun _ => 0, rfl, trivial⟩ (Below.refl _ _))
      · obtain rfl := Option.some.inj (ho.symm.trans rfl)
        clear ho
        have e181 : A.tmps[181]? = some (x 162) := hA2 162 (by omega)
        obtain ⟨k181, f181, h181⟩ := hd 162 (by decide)
        replace f181 : x 162 = .bool true := f181
        clear h181
        rw [f181] at e181
        have e183 : A.tmps[183]? = some (x 164) := hA2 164 (by omega)
        obtain ⟨k183, f183, h183⟩ := hd 164 (by decide)
        replace f183 : x 164 = .func (.func 32) #[] #[.pointer (some ⟨k183 0, 0, none⟩), .pointer (some ⟨k183 1, 0, none⟩)] := f183
        replace h183 : prP (.is ((1, 3, ⟨#[]⟩) : Val) 0) k183 W := h183
        rw [f183] at e183
        have e195 : A.tmps[195]? = some (x 176) := hA2 176 (by omega)
        obtain ⟨k195, f195, h195⟩ := hd 176 (by decide)
        replace f195 : x 176 = .agg #[.int .u8 1, .int .i64 3, .string ⟨#[]⟩] := f195
        clear h195
        rw [f195] at e195
        have e196 : A.tmps[196]? = some (x 177) := hA2 177 (by omega)
        obtain ⟨k196, f196, h196⟩ := hd 177 (by decide)
        replace f196 : x 177 = .int .i64 0 := f196
        clear h196
        rw [f196] at e196
        clear hA2 hX hd
        go_simp
        refine (isf_yes ((1, 3, ⟨#[]⟩) : Val) 0 (k183 0) (k183 1) W h183).mono ?_
        rintro e w6 ⟨rfl, hb6⟩
        exact hK' _ _ (hK _ _ ⟨fun _ => 0, rfl, trivial⟩ hb6)
      · obtain rfl := Option.some.inj (ho.symm.trans rfl)
        clear ho
        have e181 : A.tmps[181]? = some (x 162) := hA2 162 (by omega)
        obtain ⟨k181, f181, h181⟩ := hd 162 (by decide)
        replace f181 : x 162 = .bool true := f181
        clear h181
        rw [f181] at e181
        have e197 : A.tmps[197]? = some (x 178) := hA2 178 (by omega)
        obtain ⟨k197, f197, h197⟩ := hd 178 (by decide)
        replace f197 : x 178 = .bool true := f197
        clear h197
        rw [f197] at e197
        clear hA2 hX hd
        go_simp
        exact hK' _ _ (hK _ _ ⟨fun _ => 0, rfl, trivial⟩ (Below.refl _ _))
      · obtain rfl := Option.some.inj (ho.symm.trans rfl)
        clear ho
        have e198 : A.tmps[198]? = some (x 179) := hA2 179 (by omega)
        obtain ⟨k198, f198, h198⟩ := hd 179 (by decide)
        replace f198 : x 179 = .bool true := f198
        clear h198
        rw [f198] at e198
        clear hA2 hX hd
        go_simp
        exact hK' _ _ (hK _ _ ⟨fun _ => 0, rfl, trivial⟩ (Below.refl _ _))
      · obtain rfl := Option.some.inj (ho.symm.trans rfl)
        clear ho
        have e1 : A.tmps[1]? = some (.pointer (some ⟨w.heap.size, 0, none⟩)) := (hX 1 (by decide)).trans rfl
        have e199 : A.tmps[199]? = some (x 180) := hA2 180 (by omega)
        obtain ⟨k199, f199, h199⟩ := hd 180 (by decide)
        replace f199 : x 180 = .bool true := f199
        clear h199
        rw [f199] at e199
        clear hA2 hX hd
        have c0 := hs.1.cell 0
        have c1 := hs.1.cell 1
        have c2 := hs.1.cell 2
        go_simp
        exact hK' _ _ (hK _ _ ⟨fun _ => 0, rfl, trivial⟩ (Below.refl _ _))
      · obtain rfl := Option.some.inj (ho.symm.trans rfl)
        clear ho
        have e199 : A.tmps[199]? = some (x 180) := hA2 180 (by omega)
        obtain ⟨k199, f199, h199⟩ := hd 180 (by decide)
        replace f199 : x 180 = .bool true := f199
        clear h199
        rw [f199] at e199
        have e200 : A.tmps[200]? = some (x 181) := hA2 181 (by omega)
        obtain ⟨k200, f200, h200⟩ := hd 181 (by decide)
        replace f200 : x 181 = .agg #[.int .u8 0, .int .i64 0, .string ⟨#[]⟩] := f200
        clear h200
        rw [f200] at e200
        clear hA2 hX hd
        go_simp
        refine (mkis_any ((0, 0, ⟨#[]⟩) : Val) 0 _).mono ?_
        rintro e w6 ⟨g6, h6, rfl, hi6, hb6⟩
        exact hK' _ _ (hK _ _ ⟨kk4 g6 h6 0 0, rfl, hi6⟩ hb6)
      · obtain rfl := Option.some.inj (ho.symm.trans rfl)
        clear ho
        have e199 : A.tmps[199]? = some (x 180) := hA2 180 (by omega)
        obtain ⟨k199, f199, h199⟩ := hd 180 (by decide)
        replace f199 : x 180 = .bool true := f199
        clear h199
        rw [f199] at e199
        clear hA2 hX hd
        go_simp
        refine (column_any 0 _).mono ?_
        rintro e w6 ⟨rfl, hb6⟩
        exact hK' _ _ (hK _ _ ⟨fun _ => 0, rfl, trivial⟩ hb6)
      · obtain rfl := Option.some.inj (ho.symm.trans rfl)
        clear ho
        have e199 : A.tmps[199]? = some (x 180) := hA2 180 (by omega)
        obtain ⟨k199, f199, h199⟩ := hd 180 (by decide)
        replace f199 : x 180 = .bool true := f199
        clear h199
        rw [f199] at e199
        have e202 : A.tmps[202]? = some (x 183) := hA2 183 (by omega)
        obtain ⟨k202, f202, h202⟩ := hd 183 (by decide)
        replace f202 : x 183 = .agg #[.int .u8 2, .int .u8 0, .int .i64 0, .string ⟨#[]⟩, .string ⟨#[]⟩, .string ⟨#[]⟩, .int .i64 0, .slice none 0 0] := f202
        clear h202
        rw [f202] at e202
        clear hA2 hX hd
        go_simp
        exact hK' _ _ (hK _ _ ⟨kk4 W.heap.size 0 0 0, rfl, kids_1 (x := colX 0) (Blk.new _ _ _)⟩ one_alloc)
      · obtain rfl := Option.some.inj (ho.symm.trans rfl)
        clear ho
        have e199 : A.tmps[199]? = some (x 180) := hA2 180 (by omega)
        obtain ⟨k199, f199, h199⟩ := hd 180 (by decide)
        replace f199 : x 180 = .bool true := f199
        clear h199
        rw [f199] at e199
        have e203 : A.tmps[203]? = some (x 184) := hA2 184 (by omega)
        obtain ⟨k203, f203, h203⟩ := hd 184 (by decide)
        replace f203 : x 184 = .slice (some ⟨k203 0, 0, none⟩) 1 1 := f203
        replace h203 : prP (.kids [colX 0]) k203 W := h203
        rw [f203] at e203
        clear hA2 hX hd
        go_simp
        refine (mkof_any 21 (some ⟨k203 0, 0, none⟩) 1 1 _).mono ?_
        rintro e w6 ⟨rfl, hb6⟩
        exact hK' _ _ (hK _ _ ⟨k203, rfl, prp_step h203 hb6⟩ hb6)
      · obtain rfl := Option.some.inj (ho.symm.trans rfl)
        clear ho
        have e199 : A.tmps[199]? = some (x 180) := hA2 180 (by omega)
        obtain ⟨k199, f199, h199⟩ := hd 180 (by decide)
        replace f199 : x 180 = .bool true := f199
        clear h199
        rw [f199] at e199
        have e204 : A.tmps[204]? = some (x 185) := hA2 185 (by omega)
        obtain ⟨k204, f204, h204⟩ := hd 185 (by decide)
        replace f204 : x 185 = .agg #[.int .u8 21, .int .u8 0, .int .i64 0, .string ⟨#[]⟩, .string ⟨#[]⟩, .string ⟨#[]⟩, .int .i64 0, .slice (some ⟨k204 0, 0, none⟩) 1 1] := f204
        replace h204 : prP (.kids [colX 0]) k204 W := h204
        rw [f204] at e204
        clear hA2 hX hd
        go_simp
        refine (fold_0 (k204 0) W h204).mono ?_
        rintro e w6 ⟨rfl, hb6⟩
        exact hK' _ _ (hK _ _ ⟨fun _ => 0, rfl, trivial⟩ hb6)
      · obtain rfl := Option.some.inj (ho.symm.trans rfl)
        clear ho
        have e199 : A.tmps[199]? = some (x 180) := hA2 180 (by omega)
        obtain ⟨k199, f199, h199⟩ := hd 180 (by decide)
        replace f199 : x 180 = .bool true := f199
        clear h199
        rw [f199] at e199
        have e205 : A.tmps[205]? = some (x 186) := hA2 186 (by omega)
        obtain ⟨k205, f205, h205⟩ := hd 186 (by decide)
        replace f205 : x 186 = .tuple #[.agg #[.int .u8 0, .int .i64 0, .string ⟨#[]⟩], .int .i64 0] := f205
        clear h205
        rw [f205] at e205
        clear hA2 hX hd
        go_simp
        exact hK' _ _ (hK _ _ ⟨fun _ => 0, rfl, trivial⟩ (Below.refl _ _))
      · obtain rfl := Option.some.inj (ho.symm.trans rfl)
        clear ho
        have e199 : A.tmps[199]? = some (x 180) := hA2 180 (by omega)
        obtain ⟨k199, f199, h199⟩ := hd 180 (by decide)
        replace f199 : x 180 = .bool true := f199
        clear h199
        rw [f199] at e199
        have e205 : A.tmps[205]? = some (x 186) := hA2 186 (by omega)
        obtain ⟨k205, f205, h205⟩ := hd 186 (by decide)
        replace f205 : x 186 = .tuple #[.agg #[.int .u8 0, .int .i64 0, .string ⟨#[]⟩], .int .i64 0] := f205
        clear h205
        rw [f205] at e205
        clear hA2 hX hd
        go_simp
        exact hK' _ _ (hK _ _ ⟨fun _ => 0, rfl, trivial⟩ (Below.refl _ _))
      · obtain rfl := Option.some.inj (ho.symm.trans rfl)
        clear ho
        have e199 : A.tmps[199]? = some (x 180) := hA2 180 (by omega)
        obtain ⟨k199, f199, h199⟩ := hd 180 (by decide)
        replace f199 : x 180 = .bool true := f199
        clear h199
        rw [f199] at e199
        have e201 : A.tmps[201]? = some (x 182) := hA2 182 (by omega)
        obtain ⟨k201, f201, h201⟩ := hd 182 (by decide)
        replace f201 : x 182 = .func (.func 32) #[] #[.pointer (some ⟨k201 0, 0, none⟩), .pointer (some ⟨k201 1, 0, none⟩)] := f201
        replace h201 : prP (.is ((0, 0, ⟨#[]⟩) : Val) 0) k201 W := h201
        rw [f201] at e201
        have e206 : A.tmps[206]? = some (x 187) := hA2 187 (by omega)
        obtain ⟨k206, f206, h206⟩ := hd 187 (by decide)
        replace f206 : x 187 = .agg #[.int .u8 0, .int .i64 0, .string ⟨#[]⟩] := f206
        clear h206
        rw [f206] at e206
        have e207 : A.tmps[207]? = some (x 188) := hA2 188 (by omega)
        obtain ⟨k207, f207, h207⟩ := hd 188 (by decide)
        replace f207 : x 188 = .int .i64 0 := f207
        clear h207
        rw [f207] at e207
        clear hA2 hX hd
        go_simp
        refine (isf_yes ((0, 0, ⟨#[]⟩) : Val) 0 (k201 0) (k201 1) W h201).mono ?_
        rintro e w6 ⟨rfl, hb6⟩
        exact hK' _ _ (hK _ _ ⟨fun _ => 0, rfl, trivial⟩ hb6)
      · obtain rfl := Option.some.inj (ho.symm.trans rfl)
        clear ho
        have e199 : A.tmps[199]? = some (x 180) := hA2 180 (by omega)
        obtain ⟨k199, f199, h199⟩ := hd 180 (by decide)
        replace f199 : x 180 = .bool true := f199
        clear h199
        rw [f199] at e199
        have e208 : A.tmps[208]? = some (x 189) := hA2 189 (by omega)
        obtain ⟨k208, f208, h208⟩ := hd 189 (by decide)
        replace f208 : x 189 = .bool true := f208
        clear h208
        rw [f208] at e208
        clear hA2 hX hd
        go_simp
        exact hK' _ _ (hK _ _ ⟨fun _ => 0, rfl, trivial⟩ (Below.refl _ _))
      · obtain rfl := Option.some.inj (ho.symm.trans rfl)
        clear ho
        have e209 : A.tmps[209]? = some (x 190) := hA2 190 (by omega)
        obtain ⟨k209, f209, h209⟩ := hd 190 (by decide)
        replace f209 : x 190 = .bool true := f209
        clear h209
        rw [f209] at e209
        clear hA2 hX hd
        go_simp
        exact hK' _ _ (hK _ _ ⟨fun _ => 0, rfl, trivial⟩ (Below.refl _ _))
      · obtain rfl := Option.some.inj (ho.symm.trans rfl)
        clear ho
        have e210 : A.tmps[210]? = some (x 191) := hA2 191 (by omega)
        obtain ⟨k210, f210, h210⟩ := hd 191 (by decide)
        replace f210 : x 191 = .bool true := f210
        clear h210
        rw [f210] at e210
        clear hA2 hX hd
        go_simp
        refine (mkNumber15 _ _).mono ?_
        rintro e w6 ⟨rfl, hb6⟩
        exact hK' _ _ (hK _ _ ⟨fun _ => 0, rfl, trivial⟩ hb6)
      · obtain rfl := Option.some.inj (ho.symm.trans rfl)
        clear ho
        have e210 : A.tmps[210]? = some (x 191) := hA2 191 (by omega)
        obtain ⟨k210, f210, h210⟩ := hd 191 (by decide)
        replace f210 : x 191 = .bool true := f210
        clear h210
        rw [f210] at e210
        have e211 : A.tmps[211]? = some (x 192) := hA2 192 (by omega)
        obtain ⟨k211, f211, h211⟩ := hd 192 (by decide)
        replace f211 : x 192 = .agg #[.int .u8 1, .int .i64 0, .string ⟨#[]⟩] := f211
        clear h211
        rw [f211] at e211
        clear hA2 hX hd
        go_simp
        refine (mkis_any ((1, 0, ⟨#[]⟩) : Val) 0 _).mono ?_
        rintro e w6 ⟨g6, h6, rfl, hi6, hb6⟩
        exact hK' _ _ (hK _ _ ⟨kk4 g6 h6 0 0, rfl, hi6⟩ hb6)
      · obtain rfl := Option.some.inj (ho.symm.trans rfl)
        clear ho
        have e210 : A.tmps[210]? = some (x 191) := hA2 191 (by omega)
        obtain ⟨k210, f210, h210⟩ := hd 191 (by decide)
        replace f210 : x 191 = .bool true := f210
        clear h210
        rw [f210] at e210
        clear hA2 hX hd
        go_simp
        refine (mkof_any 20 none 0 0 _).mono ?_
        rintro e w6 ⟨rfl, hb6⟩
        exact hK' _ _ (hK _ _ ⟨fun _ => 0, rfl, trivial⟩ hb6)
      · obtain rfl := Option.some.inj (ho.symm.trans rfl)
        clear ho
        have e210 : A.tmps[210]? = some (x 191) := hA2 191 (by omega)
        obtain ⟨k210, f210, h210⟩ := hd 191 (by decide)
        replace f210 : x 191 = .bool true := f210
        clear h210
        rw [f210] at e210
        have e213 : A.tmps[213]? = some (x 194) := hA2 194 (by omega)
        obtain ⟨k213, f213, h213⟩ := hd 194 (by decide)
        replace f213 : x 194 = .agg #[.int .u8 20, .int .u8 0, .int .i64 0, .string ⟨#[]⟩, .string ⟨#[]⟩, .string ⟨#[]⟩, .int .i64 0, .slice none 0 0] := f213
        clear h213
        rw [f213] at e213
        clear hA2 hX hd
        go_simp
        refine (fold_c W).mono ?_
        rintro e w6 ⟨rfl, hb6⟩
        exact hK' _ _ (hK _ _ ⟨fun _ => 0, rfl, trivial⟩ hb6)
      · obtain rfl := Option.some.inj (ho.symm.trans rfl)
        clear ho
        have e210 : A.tmps[210]? = some (x 191) := hA2 191 (by omega)
        obtain ⟨k210, f210, h210⟩ := hd 191 (by decide)
        replace f210 : x 191 = .bool true := f210
        clear h210
        rw [f210] at e210
        have e214 : A.tmps[214]? = some (x 195) := hA2 195 (by omega)
        obtain ⟨k214, f214, h214⟩ := hd 195 (by decide)
        replace f214 : x 195 = .tuple #[.agg #[.int .u8 1, .int .i64 0, .string ⟨#[]⟩], .int .i64 0] := f214
        clear h214
        rw [f214] at e214
        clear hA2 hX hd
        go_simp
        exact hK' _ _ (hK _ _ ⟨fun _ => 0, rfl, trivial⟩ (Below.refl _ _))
      · obtain rfl := Option.some.inj (ho.symm.trans rfl)
        clear ho
        have e210 : A.tmps[210]? = some (x 191) := hA2 191 (by omega)
        obtain ⟨k210, f210, h210⟩ := hd 191 (by decide)
        replace f210 : x 191 = .bool true := f210
        clear h210
        rw [f210] at e210
        have e214 : A.tmps[214]? = some (x 195) := hA2 195 (by omega)
        obtain ⟨k214, f214, h214⟩ := hd 195 (by decide)
        replace f214 : x 195 = .tuple #[.agg #[.int .u8 1, .int .i64 0, .string ⟨#[]⟩], .int .i64 0] := f214
        clear h214
        rw [f214] at e214
        clear hA2 hX hd
        go_simp
        exact hK' _ _ (hK _ _ ⟨fun _ => 0, rfl, trivial⟩ (Below.refl _ _))
      · obtain rfl := Option.some.inj (ho.symm.trans rfl)
        clear ho
        have e210 : A.tmps[210]? = some (x 191) := hA2 191 (by omega)
        obtain ⟨k210, f210, h210⟩ := hd 191 (by decide)
        replace f210 : x 191 = .bool true := f210
        clear h210
        rw [f210] at e210
        have e212 : A.tmps[212]? = some (x 193) := hA2 193 (by omega)
        obtain ⟨k212, f212, h212⟩ := hd 193 (by decide)
        replace f212 : x 193 = .func (.func 32) #[] #[.pointer (some ⟨k212 0, 0, none⟩), .pointer (some ⟨k212 1, 0, none⟩)] := f212
        replace h212 : prP (.is ((1, 0, ⟨#[]⟩) : Val) 0) k212 W := h212
        rw [f212] at e212
        have e215 : A.tmps[215]? = some (x 196) := hA2 196 (by omega)
        obtain ⟨k215, f215, h215⟩ := hd 196 (by decide)
        replace f215 : x 196 = .agg #[.int .u8 1, .int .i64 0, .string ⟨#[]⟩] := f215
        clear h215
        rw [f215] at e215
        have e216 : A.tmps[216]? = some (x 197) := hA2 197 (by omega)
        obtain ⟨k216, f216, h216⟩ := hd 197 (by decide)
        replace f216 : x 197 = .int .i64 0 := f216
        clear h216
        rw [f216] at e216
        clear hA2 hX hd
        go_simp
        refine (isf_yes ((1, 0, ⟨#[]⟩) : Val) 0 (k212 0) (k212 1) W h212).mono ?_
        rintro e w6 ⟨rfl, hb6⟩
        exact hK' _ _ (hK _ _ ⟨fun _ => 0, rfl, trivial⟩ hb6)
      · obtain rfl := Option.some.inj (ho.symm.trans rfl)
        clear ho
        have e210 : A.tmps[210]? = some (x 191) := hA2 191 (by omega)
        obtain ⟨k210, f210, h210⟩ := hd 191 (by decide)
        replace f210 : x 191 = .bool true := f210
        clear h210
        rw [f210] at e210
        have e217 : A.tmps[217]? = some (x 198) := hA2 198 (by omega)
        obtain ⟨k217, f217, h217⟩ := hd 198 (by decide)
        replace f217 : x 198 = .bool true := f217
        clear h217
        rw [f217] at e217
        clear hA2 hX hd
        go_simp
        exact hK' _ _ (hK _ _ ⟨fun _ => 0, rfl, trivial⟩ (Below.refl _ _))
    by_cases hc8 : i < 201
    · obtain rfl : i = 200 := by omega
      · obtain rfl := Option.some.inj (ho.symm.trans rfl)
        clear ho
        have e218 : A.tmps[218]? = some (x 199) := hA2 199 (by omega)
        obtain ⟨k218, f218, h218⟩ := hd 199 (by decide)
        replace f218 : x 199 = .bool true := f218
        clear h218
        rw [f218] at e218
        clear hA2 hX hd
        go_simp
        exact hK' _ _ (hK _ _ ⟨fun _ => 0, rfl, trivial⟩ (Below.refl _ _))
    exact absurd hi2 (by omega)
  case hend =>
    intro x W hf hb
    have HBX := Lib.hid (kw_step HK5.out hb).2
    have hl : x 200 = .bool true := by
      obtain ⟨_, h, _⟩ := hf 200 (by decide)
      exact h
    rw [putsA_lit _ _ (0 :: 1 :: 2 :: 3 :: 4 :: 5 :: 6 :: 7 :: 8 :: 9 :: 10 :: 11 :: 12 :: 13 :: 14 :: 15 :: 16 :: 17 :: 18 :: 19 :: 20 :: 21 :: 22 :: 23 :: 24 :: 25 :: 26 :: 27 :: 28 :: 29 :: 30 :: 31 :: 32 :: 33 :: 34 :: 35 :: 36 :: 37 :: 38 :: 39 :: 40 :: 41 :: 42 :: 43 :: 44 :: 45 :: 46 :: 47 :: 48 :: 49 :: 50 :: 51 :: 52 :: 53 :: 54 :: 55 :: 56 :: 57 :: 58 :: 59 :: 60 :: 61 :: 62 :: 63 :: 64 :: 65 :: 66 :: 67 :: 68 :: 69 :: 70 :: 71 :: 72 :: 73 :: 74 :: 75 :: 76 :: 77 :: 78 :: 79 :: 80 :: 81 :: 82 :: 83 :: 84 :: 85 :: 86 :: 87 :: 88 :: 89 :: 90 :: 91 :: 92 :: 93 :: 94 :: 95 :: 96 :: 97 :: 98 :: 99 :: 100 :: 101 :: 102 :: 103 :: 104 :: 105 :: 106 :: 107 :: 108 :: 109 :: 110 :: 111 :: 112 :: 113 :: 114 :: 115 :: 116 :: 117 :: 118 :: 119 :: 120 :: 121 :: 122 :: 123 :: 124 :: 125 :: 126 :: 127 :: 128 :: 129 :: 130 :: 131 :: 132 :: 133 :: 134 :: 135 :: 136 :: 137 :: 138 :: 139 :: 140 :: 141 :: 142 :: 143 :: 144 :: 145 :: 146 :: 147 :: 148 :: 149 :: 150 :: 151 :: 152 :: 153 :: 154 :: 155 :: 156 :: 157 :: 158 :: 159 :: 160 :: 161 :: 162 :: 163 :: 164 :: 165 :: 166 :: 167 :: 168 :: 169 :: 170 :: 171 :: 172 :: 173 :: 174 :: 175 :: 176 :: 177 :: 178 :: 179 :: 180 :: 181 :: 182 :: 183 :: 184 :: 185 :: 186 :: 187 :: 188 :: 189 :: 190 :: 191 :: 192 :: 193 :: 194 :: 195 :: 196 :: 197 :: 198 :: 199 :: 200 :: []) ((0, 200) :: (19, 0) :: (20, 1) :: (21, 2) :: (22, 3) :: (23, 4) :: (24, 5) :: (25, 6) :: (26, 7) :: (27, 8) :: (28, 9) :: (29, 10) :: (30, 11) :: (31, 12) :: (32, 13) :: (33, 14) :: (34, 15) :: (35, 16) :: (36, 17) :: (37, 18) :: (38, 19) :: (39, 20) :: (40, 21) :: (41, 22) :: (42, 23) :: (43, 24) :: (44, 25) :: (45, 26) :: (46, 27) :: (47, 28) :: (48, 29) :: (49, 30) :: (50, 31) :: (51, 32) :: (52, 33) :: (53, 34) :: (54, 35) :: (55, 36) :: (56, 37) :: (57, 38) :: (58, 39) :: (59, 40) :: (60, 41) :: (61, 42) :: (62, 43) :: (63, 44) :: (64, 45) :: (65, 46) :: (66, 47) :: (67, 48) :: (68, 49) :: (69, 50) :: (70, 51) :: (71, 52) :: (72, 53) :: (73, 54) :: (74, 55) :: (75, 56) :: (76, 57) :: (77, 58) :: (78, 59) :: (79, 60) :: (80, 61) :: (81, 62) :: (82, 63) :: (83, 64) :: (84, 65) :: (85, 66) :: (86, 67) :: (87, 68) :: (88, 69) :: (89, 70) :: (90, 71) :: (91, 72) :: (92, 73) :: (93, 74) :: (94, 75) :: (95, 76) :: (96, 77) :: (97, 78) :: (98, 79) :: (99, 80) :: (100, 81) :: (101, 82) :: (102, 83) :: (103, 84) :: (104, 85) :: (105, 86) :: (106, 87) :: (107, 88) :: (108, 89) :: (109, 90) :: (110, 91) :: (111, 92) :: (112, 93) :: (113, 94) :: (114, 95) :: (115, 96) :: (116, 97) :: (117, 98) :: (118, 99) :: (119, 100) :: (120, 101) :: (121, 102) :: (122, 103) :: (123, 104) :: (124, 105) :: (125, 106) :: (126, 107) :: (127, 108) :: (128, 109) :: (129, 110) :: (130, 111) :: (131, 112) :: (132, 113) :: (133, 114) :: (134, 115) :: (135, 116) :: (136, 117) :: (137, 118) :: (138, 119) :: (139, 120) :: (140, 121) :: (141, 122) :: (142, 123) :: (143, 124) :: (144, 125) :: (145, 126) :: (146, 127) :: (147, 128) :: (148, 129) :: (149, 130) :: (150, 131) :: (151, 132) :: (152, 133) :: (153, 134) :: (154, 135) :: (155, 136) :: (156, 137) :: (157, 138) :: (158, 139) :: (159, 140) :: (160, 141) :: (161, 142) :: (162, 143) :: (163, 144) :: (164, 145) :: (165, 146) :: (166, 147) :: (167, 148) :: (168, 149) :: (169, 150) :: (170, 151) :: (171, 152) :: (172, 153) :: (173, 154) :: (174, 155) :: (175, 156) :: (176, 157) :: (177, 158) :: (178, 159) :: (179, 160) :: (180, 161) :: (181, 162) :: (182, 163) :: (183, 164) :: (184, 165) :: (185, 166) :: (186, 167) :: (187, 168) :: (188, 169) :: (189, 170) :: (190, 171) :: (191, 172) :: (192, 173) :: (193, 174) :: (194, 175) :: (195, 176) :: (196, 177) :: (197, 178) :: (198, 179) :: (199, 180) :: (200, 181) :: (201, 182) :: (202, 183) :: (203, 184) :: (204, 185) :: (205, 186) :: (206, 187) :: (207, 188) :: (208, 189) :: (209, 190) :: (210, 191) :: (211, 192) :: (212, 193) :: (213, 194) :: (214, 195) :: (215, 196) :: (216, 197) :: (217, 198) :: (218, 199) :: []) (by kernel_rfl)]
    simp only [setAll, ↓reduceIte, Nat.reduceAdd, Nat.reduceEqDiff]
    rw [hl]
    clear hf hl hb HK5
    refine wpAny_done (by kernel_rfl) ?_ _
    refine NoPanic.normal ?_
    go_wp2
    go_ret
    exact ⟨rfl, HBX.out⟩
end Go.Proofs.Ytkgpcodccpckeaa
