/-
  facetlaw15.small: runs. Nothing here is trusted.
-/
import Derived.Test.YtjhijkdicmbbiaaHTRk3
namespace Go.Proofs.Ytjhijkdicmbbiaa
open Go Vx Go.RowKit
def sRow (c : Nat → Int) : Nat → List Value := fun q => [.int .i16 (c q)]
abbrev Sr (o : Bool) (n : Nat) (c : Nat → Int) : Blk := .rows o true 1 n (sRow c)
def slB (P : Program) : Code := bodyOf P 50
/-- 24, 48, 96 or 192. -/
def sml (k : Nat) : Int := ((24 * 2 ^ (k % 4) : Nat) : Int)
def slS (n : Nat) (o : Bool) (c : Nat → Int) (M : Int) : St := stOf 38 [(1, SI 0 n), (4, pt 1), (5, pt 2)] [Sr o n c, .cells true 0 [vI 0, .slice none 0 0], .cells true 0 [vI M, .slice none 0 0]]
def slSN (M : Int) : St := stOf 38 [(1, .slice none 0 0), (4, pt 0), (5, pt 1)] [.cells true 0 [vI 0, .slice none 0 0], .cells true 0 [vI M, .slice none 0 0]]
theorem slA (k : Nat) (hk : k < 256) (n : Nat) (o : Bool) (c : Nat → Int) : segR ((Ck3 Try.prog).into 50 1) 60 2 (slB Try.prog) [1, 4, 5] [.fix 0, .slot 4, .slot 5] (enter Try.f50 [.int .u8 (k : Int), SI 0 n] [Sr o n c]) = some (slS n o c (sml k)) := by
  by_cases h0_256 : k < 128
  · by_cases h0_128 : k < 64
    · by_cases h0_64 : k < 32
      · by_cases h0_32 : k < 16
        · by_cases h0_16 : k < 8
          · by_cases h0_8 : k < 4
            · by_cases h0_4 : k < 2
              · by_cases h0_2 : k < 1
                · obtain rfl : k = 0 := by omega
                  kernel_rfl
                · obtain rfl : k = 1 := by omega
                  kernel_rfl
              · by_cases h2_4 : k < 3
                · obtain rfl : k = 2 := by omega
                  kernel_rfl
                · obtain rfl : k = 3 := by omega
                  kernel_rfl
            · by_cases h4_8 : k < 6
              · by_cases h4_6 : k < 5
                · obtain rfl : k = 4 := by omega
                  kernel_rfl
                · obtain rfl : k = 5 := by omega
                  kernel_rfl
              · by_cases h6_8 : k < 7
                · obtain rfl : k = 6 := by omega
                  kernel_rfl
                · obtain rfl : k = 7 := by omega
                  kernel_rfl
          · by_cases h8_16 : k < 12
            · by_cases h8_12 : k < 10
              · by_cases h8_10 : k < 9
                · obtain rfl : k = 8 := by omega
                  kernel_rfl
                · obtain rfl : k = 9 := by omega
                  kernel_rfl
              · by_cases h10_12 : k < 11
                · obtain rfl : k = 10 := by omega
                  kernel_rfl
                · obtain rfl : k = 11 := by omega
                  kernel_rfl
            · by_cases h12_16 : k < 14
              · by_cases h12_14 : k < 13
                · obtain rfl : k = 12 := by omega
                  kernel_rfl
                · obtain rfl : k = 13 := by omega
                  kernel_rfl
              · by_cases h14_16 : k < 15
                · obtain rfl : k = 14 := by omega
                  kernel_rfl
                · obtain rfl : k = 15 := by omega
                  kernel_rfl
        · by_cases h16_32 : k < 24
          · by_cases h16_24 : k < 20
            · by_cases h16_20 : k < 18
              · by_cases h16_18 : k < 17
                · obtain rfl : k = 16 := by omega
                  kernel_rfl
                · obtain rfl : k = 17 := by omega
                  kernel_rfl
              · by_cases h18_20 : k < 19
                · obtain rfl : k = 18 := by omega
                  kernel_rfl
                · obtain rfl : k = 19 := by omega
                  kernel_rfl
            · by_cases h20_24 : k < 22
              · by_cases h20_22 : k < 21
                · obtain rfl : k = 20 := by omega
                  kernel_rfl
                · obtain rfl : k = 21 := by omega
                  kernel_rfl
              · by_cases h22_24 : k < 23
                · obtain rfl : k = 22 := by omega
                  kernel_rfl
                · obtain rfl : k = 23 := by omega
                  kernel_rfl
          · by_cases h24_32 : k < 28
            · by_cases h24_28 : k < 26
              · by_cases h24_26 : k < 25
                · obtain rfl : k = 24 := by omega
                  kernel_rfl
                · obtain rfl : k = 25 := by omega
                  kernel_rfl
              · by_cases h26_28 : k < 27
                · obtain rfl : k = 26 := by omega
                  kernel_rfl
                · obtain rfl : k = 27 := by omega
                  kernel_rfl
            · by_cases h28_32 : k < 30
              · by_cases h28_30 : k < 29
                · obtain rfl : k = 28 := by omega
                  kernel_rfl
                · obtain rfl : k = 29 := by omega
                  kernel_rfl
              · by_cases h30_32 : k < 31
                · obtain rfl : k = 30 := by omega
                  kernel_rfl
                · obtain rfl : k = 31 := by omega
                  kernel_rfl
      · by_cases h32_64 : k < 48
        · by_cases h32_48 : k < 40
          · by_cases h32_40 : k < 36
            · by_cases h32_36 : k < 34
              · by_cases h32_34 : k < 33
                · obtain rfl : k = 32 := by omega
                  kernel_rfl
                · obtain rfl : k = 33 := by omega
                  kernel_rfl
              · by_cases h34_36 : k < 35
                · obtain rfl : k = 34 := by omega
                  kernel_rfl
                · obtain rfl : k = 35 := by omega
                  kernel_rfl
            · by_cases h36_40 : k < 38
              · by_cases h36_38 : k < 37
                · obtain rfl : k = 36 := by omega
                  kernel_rfl
                · obtain rfl : k = 37 := by omega
                  kernel_rfl
              · by_cases h38_40 : k < 39
                · obtain rfl : k = 38 := by omega
                  kernel_rfl
                · obtain rfl : k = 39 := by omega
                  kernel_rfl
          · by_cases h40_48 : k < 44
            · by_cases h40_44 : k < 42
              · by_cases h40_42 : k < 41
                · obtain rfl : k = 40 := by omega
                  kernel_rfl
                · obtain rfl : k = 41 := by omega
                  kernel_rfl
              · by_cases h42_44 : k < 43
                · obtain rfl : k = 42 := by omega
                  kernel_rfl
                · obtain rfl : k = 43 := by omega
                  kernel_rfl
            · by_cases h44_48 : k < 46
              · by_cases h44_46 : k < 45
                · obtain rfl : k = 44 := by omega
                  kernel_rfl
                · obtain rfl : k = 45 := by omega
                  kernel_rfl
              · by_cases h46_48 : k < 47
                · obtain rfl : k = 46 := by omega
                  kernel_rfl
                · obtain rfl : k = 47 := by omega
                  kernel_rfl
        · by_cases h48_64 : k < 56
          · by_cases h48_56 : k < 52
            · by_cases h48_52 : k < 50
              · by_cases h48_50 : k < 49
                · obtain rfl : k = 48 := by omega
                  kernel_rfl
                · obtain rfl : k = 49 := by omega
                  kernel_rfl
              · by_cases h50_52 : k < 51
                · obtain rfl : k = 50 := by omega
                  kernel_rfl
                · obtain rfl : k = 51 := by omega
                  kernel_rfl
            · by_cases h52_56 : k < 54
              · by_cases h52_54 : k < 53
                · obtain rfl : k = 52 := by omega
                  kernel_rfl
                · obtain rfl : k = 53 := by omega
                  kernel_rfl
              · by_cases h54_56 : k < 55
                · obtain rfl : k = 54 := by omega
                  kernel_rfl
                · obtain rfl : k = 55 := by omega
                  kernel_rfl
          · by_cases h56_64 : k < 60
            · by_cases h56_60 : k < 58
              · by_cases h56_58 : k < 57
                · obtain rfl : k = 56 := by omega
                  kernel_rfl
                · obtain rfl : k = 57 := by omega
                  kernel_rfl
              · by_cases h58_60 : k < 59
                · obtain rfl : k = 58 := by omega
                  kernel_rfl
                · obtain rfl : k = 59 := by omega
                  kernel_rfl
            · by_cases h60_64 : k < 62
              · by_cases h60_62 : k < 61
                · obtain rfl : k = 60 := by omega
                  kernel_rfl
                · obtain rfl : k = 61 := by omega
                  kernel_rfl
              · by_cases h62_64 : k < 63
                · obtain rfl : k = 62 := by omega
                  kernel_rfl
                · obtain rfl : k = 63 := by omega
                  kernel_rfl
    · by_cases h64_128 : k < 96
      · by_cases h64_96 : k < 80
        · by_cases h64_80 : k < 72
          · by_cases h64_72 : k < 68
            · by_cases h64_68 : k < 66
              · by_cases h64_66 : k < 65
                · obtain rfl : k = 64 := by omega
                  kernel_rfl
                · obtain rfl : k = 65 := by omega
                  kernel_rfl
              · by_cases h66_68 : k < 67
                · obtain rfl : k = 66 := by omega
                  kernel_rfl
                · obtain rfl : k = 67 := by omega
                  kernel_rfl
            · by_cases h68_72 : k < 70
              · by_cases h68_70 : k < 69
                · obtain rfl : k = 68 := by omega
                  kernel_rfl
                · obtain rfl : k = 69 := by omega
                  kernel_rfl
              · by_cases h70_72 : k < 71
                · obtain rfl : k = 70 := by omega
                  kernel_rfl
                · obtain rfl : k = 71 := by omega
                  kernel_rfl
          · by_cases h72_80 : k < 76
            · by_cases h72_76 : k < 74
              · by_cases h72_74 : k < 73
                · obtain rfl : k = 72 := by omega
                  kernel_rfl
                · obtain rfl : k = 73 := by omega
                  kernel_rfl
              · by_cases h74_76 : k < 75
                · obtain rfl : k = 74 := by omega
                  kernel_rfl
                · obtain rfl : k = 75 := by omega
                  kernel_rfl
            · by_cases h76_80 : k < 78
              · by_cases h76_78 : k < 77
                · obtain rfl : k = 76 := by omega
                  kernel_rfl
                · obtain rfl : k = 77 := by omega
                  kernel_rfl
              · by_cases h78_80 : k < 79
                · obtain rfl : k = 78 := by omega
                  kernel_rfl
                · obtain rfl : k = 79 := by omega
                  kernel_rfl
        · by_cases h80_96 : k < 88
          · by_cases h80_88 : k < 84
            · by_cases h80_84 : k < 82
              · by_cases h80_82 : k < 81
                · obtain rfl : k = 80 := by omega
                  kernel_rfl
                · obtain rfl : k = 81 := by omega
                  kernel_rfl
              · by_cases h82_84 : k < 83
                · obtain rfl : k = 82 := by omega
                  kernel_rfl
                · obtain rfl : k = 83 := by omega
                  kernel_rfl
            · by_cases h84_88 : k < 86
              · by_cases h84_86 : k < 85
                · obtain rfl : k = 84 := by omega
                  kernel_rfl
                · obtain rfl : k = 85 := by omega
                  kernel_rfl
              · by_cases h86_88 : k < 87
                · obtain rfl : k = 86 := by omega
                  kernel_rfl
                · obtain rfl : k = 87 := by omega
                  kernel_rfl
          · by_cases h88_96 : k < 92
            · by_cases h88_92 : k < 90
              · by_cases h88_90 : k < 89
                · obtain rfl : k = 88 := by omega
                  kernel_rfl
                · obtain rfl : k = 89 := by omega
                  kernel_rfl
              · by_cases h90_92 : k < 91
                · obtain rfl : k = 90 := by omega
                  kernel_rfl
                · obtain rfl : k = 91 := by omega
                  kernel_rfl
            · by_cases h92_96 : k < 94
              · by_cases h92_94 : k < 93
                · obtain rfl : k = 92 := by omega
                  kernel_rfl
                · obtain rfl : k = 93 := by omega
                  kernel_rfl
              · by_cases h94_96 : k < 95
                · obtain rfl : k = 94 := by omega
                  kernel_rfl
                · obtain rfl : k = 95 := by omega
                  kernel_rfl
      · by_cases h96_128 : k < 112
        · by_cases h96_112 : k < 104
          · by_cases h96_104 : k < 100
            · by_cases h96_100 : k < 98
              · by_cases h96_98 : k < 97
                · obtain rfl : k = 96 := by omega
                  kernel_rfl
                · obtain rfl : k = 97 := by omega
                  kernel_rfl
              · by_cases h98_100 : k < 99
                · obtain rfl : k = 98 := by omega
                  kernel_rfl
                · obtain rfl : k = 99 := by omega
                  kernel_rfl
            · by_cases h100_104 : k < 102
              · by_cases h100_102 : k < 101
                · obtain rfl : k = 100 := by omega
                  kernel_rfl
                · obtain rfl : k = 101 := by omega
                  kernel_rfl
              · by_cases h102_104 : k < 103
                · obtain rfl : k = 102 := by omega
                  kernel_rfl
                · obtain rfl : k = 103 := by omega
                  kernel_rfl
          · by_cases h104_112 : k < 108
            · by_cases h104_108 : k < 106
              · by_cases h104_106 : k < 105
                · obtain rfl : k = 104 := by omega
                  kernel_rfl
                · obtain rfl : k = 105 := by omega
                  kernel_rfl
              · by_cases h106_108 : k < 107
                · obtain rfl : k = 106 := by omega
                  kernel_rfl
                · obtain rfl : k = 107 := by omega
                  kernel_rfl
            · by_cases h108_112 : k < 110
              · by_cases h108_110 : k < 109
                · obtain rfl : k = 108 := by omega
                  kernel_rfl
                · obtain rfl : k = 109 := by omega
                  kernel_rfl
              · by_cases h110_112 : k < 111
                · obtain rfl : k = 110 := by omega
                  kernel_rfl
                · obtain rfl : k = 111 := by omega
                  kernel_rfl
        · by_cases h112_128 : k < 120
          · by_cases h112_120 : k < 116
            · by_cases h112_116 : k < 114
              · by_cases h112_114 : k < 113
                · obtain rfl : k = 112 := by omega
                  kernel_rfl
                · obtain rfl : k = 113 := by omega
                  kernel_rfl
              · by_cases h114_116 : k < 115
                · obtain rfl : k = 114 := by omega
                  kernel_rfl
                · obtain rfl : k = 115 := by omega
                  kernel_rfl
            · by_cases h116_120 : k < 118
              · by_cases h116_118 : k < 117
                · obtain rfl : k = 116 := by omega
                  kernel_rfl
                · obtain rfl : k = 117 := by omega
                  kernel_rfl
              · by_cases h118_120 : k < 119
                · obtain rfl : k = 118 := by omega
                  kernel_rfl
                · obtain rfl : k = 119 := by omega
                  kernel_rfl
          · by_cases h120_128 : k < 124
            · by_cases h120_124 : k < 122
              · by_cases h120_122 : k < 121
                · obtain rfl : k = 120 := by omega
                  kernel_rfl
                · obtain rfl : k = 121 := by omega
                  kernel_rfl
              · by_cases h122_124 : k < 123
                · obtain rfl : k = 122 := by omega
                  kernel_rfl
                · obtain rfl : k = 123 := by omega
                  kernel_rfl
            · by_cases h124_128 : k < 126
              · by_cases h124_126 : k < 125
                · obtain rfl : k = 124 := by omega
                  kernel_rfl
                · obtain rfl : k = 125 := by omega
                  kernel_rfl
              · by_cases h126_128 : k < 127
                · obtain rfl : k = 126 := by omega
                  kernel_rfl
                · obtain rfl : k = 127 := by omega
                  kernel_rfl
  · by_cases h128_256 : k < 192
    · by_cases h128_192 : k < 160
      · by_cases h128_160 : k < 144
        · by_cases h128_144 : k < 136
          · by_cases h128_136 : k < 132
            · by_cases h128_132 : k < 130
              · by_cases h128_130 : k < 129
                · obtain rfl : k = 128 := by omega
                  kernel_rfl
                · obtain rfl : k = 129 := by omega
                  kernel_rfl
              · by_cases h130_132 : k < 131
                · obtain rfl : k = 130 := by omega
                  kernel_rfl
                · obtain rfl : k = 131 := by omega
                  kernel_rfl
            · by_cases h132_136 : k < 134
              · by_cases h132_134 : k < 133
                · obtain rfl : k = 132 := by omega
                  kernel_rfl
                · obtain rfl : k = 133 := by omega
                  kernel_rfl
              · by_cases h134_136 : k < 135
                · obtain rfl : k = 134 := by omega
                  kernel_rfl
                · obtain rfl : k = 135 := by omega
                  kernel_rfl
          · by_cases h136_144 : k < 140
            · by_cases h136_140 : k < 138
              · by_cases h136_138 : k < 137
                · obtain rfl : k = 136 := by omega
                  kernel_rfl
                · obtain rfl : k = 137 := by omega
                  kernel_rfl
              · by_cases h138_140 : k < 139
                · obtain rfl : k = 138 := by omega
                  kernel_rfl
                · obtain rfl : k = 139 := by omega
                  kernel_rfl
            · by_cases h140_144 : k < 142
              · by_cases h140_142 : k < 141
                · obtain rfl : k = 140 := by omega
                  kernel_rfl
                · obtain rfl : k = 141 := by omega
                  kernel_rfl
              · by_cases h142_144 : k < 143
                · obtain rfl : k = 142 := by omega
                  kernel_rfl
                · obtain rfl : k = 143 := by omega
                  kernel_rfl
        · by_cases h144_160 : k < 152
          · by_cases h144_152 : k < 148
            · by_cases h144_148 : k < 146
              · by_cases h144_146 : k < 145
                · obtain rfl : k = 144 := by omega
                  kernel_rfl
                · obtain rfl : k = 145 := by omega
                  kernel_rfl
              · by_cases h146_148 : k < 147
                · obtain rfl : k = 146 := by omega
                  kernel_rfl
                · obtain rfl : k = 147 := by omega
                  kernel_rfl
            · by_cases h148_152 : k < 150
              · by_cases h148_150 : k < 149
                · obtain rfl : k = 148 := by omega
                  kernel_rfl
                · obtain rfl : k = 149 := by omega
                  kernel_rfl
              · by_cases h150_152 : k < 151
                · obtain rfl : k = 150 := by omega
                  kernel_rfl
                · obtain rfl : k = 151 := by omega
                  kernel_rfl
          · by_cases h152_160 : k < 156
            · by_cases h152_156 : k < 154
              · by_cases h152_154 : k < 153
                · obtain rfl : k = 152 := by omega
                  kernel_rfl
                · obtain rfl : k = 153 := by omega
                  kernel_rfl
              · by_cases h154_156 : k < 155
                · obtain rfl : k = 154 := by omega
                  kernel_rfl
                · obtain rfl : k = 155 := by omega
                  kernel_rfl
            · by_cases h156_160 : k < 158
              · by_cases h156_158 : k < 157
                · obtain rfl : k = 156 := by omega
                  kernel_rfl
                · obtain rfl : k = 157 := by omega
                  kernel_rfl
              · by_cases h158_160 : k < 159
                · obtain rfl : k = 158 := by omega
                  kernel_rfl
                · obtain rfl : k = 159 := by omega
                  kernel_rfl
      · by_cases h160_192 : k < 176
        · by_cases h160_176 : k < 168
          · by_cases h160_168 : k < 164
            · by_cases h160_164 : k < 162
              · by_cases h160_162 : k < 161
                · obtain rfl : k = 160 := by omega
                  kernel_rfl
                · obtain rfl : k = 161 := by omega
                  kernel_rfl
              · by_cases h162_164 : k < 163
                · obtain rfl : k = 162 := by omega
                  kernel_rfl
                · obtain rfl : k = 163 := by omega
                  kernel_rfl
            · by_cases h164_168 : k < 166
              · by_cases h164_166 : k < 165
                · obtain rfl : k = 164 := by omega
                  kernel_rfl
                · obtain rfl : k = 165 := by omega
                  kernel_rfl
              · by_cases h166_168 : k < 167
                · obtain rfl : k = 166 := by omega
                  kernel_rfl
                · obtain rfl : k = 167 := by omega
                  kernel_rfl
          · by_cases h168_176 : k < 172
            · by_cases h168_172 : k < 170
              · by_cases h168_170 : k < 169
                · obtain rfl : k = 168 := by omega
                  kernel_rfl
                · obtain rfl : k = 169 := by omega
                  kernel_rfl
              · by_cases h170_172 : k < 171
                · obtain rfl : k = 170 := by omega
                  kernel_rfl
                · obtain rfl : k = 171 := by omega
                  kernel_rfl
            · by_cases h172_176 : k < 174
              · by_cases h172_174 : k < 173
                · obtain rfl : k = 172 := by omega
                  kernel_rfl
                · obtain rfl : k = 173 := by omega
                  kernel_rfl
              · by_cases h174_176 : k < 175
                · obtain rfl : k = 174 := by omega
                  kernel_rfl
                · obtain rfl : k = 175 := by omega
                  kernel_rfl
        · by_cases h176_192 : k < 184
          · by_cases h176_184 : k < 180
            · by_cases h176_180 : k < 178
              · by_cases h176_178 : k < 177
                · obtain rfl : k = 176 := by omega
                  kernel_rfl
                · obtain rfl : k = 177 := by omega
                  kernel_rfl
              · by_cases h178_180 : k < 179
                · obtain rfl : k = 178 := by omega
                  kernel_rfl
                · obtain rfl : k = 179 := by omega
                  kernel_rfl
            · by_cases h180_184 : k < 182
              · by_cases h180_182 : k < 181
                · obtain rfl : k = 180 := by omega
                  kernel_rfl
                · obtain rfl : k = 181 := by omega
                  kernel_rfl
              · by_cases h182_184 : k < 183
                · obtain rfl : k = 182 := by omega
                  kernel_rfl
                · obtain rfl : k = 183 := by omega
                  kernel_rfl
          · by_cases h184_192 : k < 188
            · by_cases h184_188 : k < 186
              · by_cases h184_186 : k < 185
                · obtain rfl : k = 184 := by omega
                  kernel_rfl
                · obtain rfl : k = 185 := by omega
                  kernel_rfl
              · by_cases h186_188 : k < 187
                · obtain rfl : k = 186 := by omega
                  kernel_rfl
                · obtain rfl : k = 187 := by omega
                  kernel_rfl
            · by_cases h188_192 : k < 190
              · by_cases h188_190 : k < 189
                · obtain rfl : k = 188 := by omega
                  kernel_rfl
                · obtain rfl : k = 189 := by omega
                  kernel_rfl
              · by_cases h190_192 : k < 191
                · obtain rfl : k = 190 := by omega
                  kernel_rfl
                · obtain rfl : k = 191 := by omega
                  kernel_rfl
    · by_cases h192_256 : k < 224
      · by_cases h192_224 : k < 208
        · by_cases h192_208 : k < 200
          · by_cases h192_200 : k < 196
            · by_cases h192_196 : k < 194
              · by_cases h192_194 : k < 193
                · obtain rfl : k = 192 := by omega
                  kernel_rfl
                · obtain rfl : k = 193 := by omega
                  kernel_rfl
              · by_cases h194_196 : k < 195
                · obtain rfl : k = 194 := by omega
                  kernel_rfl
                · obtain rfl : k = 195 := by omega
                  kernel_rfl
            · by_cases h196_200 : k < 198
              · by_cases h196_198 : k < 197
                · obtain rfl : k = 196 := by omega
                  kernel_rfl
                · obtain rfl : k = 197 := by omega
                  kernel_rfl
              · by_cases h198_200 : k < 199
                · obtain rfl : k = 198 := by omega
                  kernel_rfl
                · obtain rfl : k = 199 := by omega
                  kernel_rfl
          · by_cases h200_208 : k < 204
            · by_cases h200_204 : k < 202
              · by_cases h200_202 : k < 201
                · obtain rfl : k = 200 := by omega
                  kernel_rfl
                · obtain rfl : k = 201 := by omega
                  kernel_rfl
              · by_cases h202_204 : k < 203
                · obtain rfl : k = 202 := by omega
                  kernel_rfl
                · obtain rfl : k = 203 := by omega
                  kernel_rfl
            · by_cases h204_208 : k < 206
              · by_cases h204_206 : k < 205
                · obtain rfl : k = 204 := by omega
                  kernel_rfl
                · obtain rfl : k = 205 := by omega
                  kernel_rfl
              · by_cases h206_208 : k < 207
                · obtain rfl : k = 206 := by omega
                  kernel_rfl
                · obtain rfl : k = 207 := by omega
                  kernel_rfl
        · by_cases h208_224 : k < 216
          · by_cases h208_216 : k < 212
            · by_cases h208_212 : k < 210
              · by_cases h208_210 : k < 209
                · obtain rfl : k = 208 := by omega
                  kernel_rfl
                · obtain rfl : k = 209 := by omega
                  kernel_rfl
              · by_cases h210_212 : k < 211
                · obtain rfl : k = 210 := by omega
                  kernel_rfl
                · obtain rfl : k = 211 := by omega
                  kernel_rfl
            · by_cases h212_216 : k < 214
              · by_cases h212_214 : k < 213
                · obtain rfl : k = 212 := by omega
                  kernel_rfl
                · obtain rfl : k = 213 := by omega
                  kernel_rfl
              · by_cases h214_216 : k < 215
                · obtain rfl : k = 214 := by omega
                  kernel_rfl
                · obtain rfl : k = 215 := by omega
                  kernel_rfl
          · by_cases h216_224 : k < 220
            · by_cases h216_220 : k < 218
              · by_cases h216_218 : k < 217
                · obtain rfl : k = 216 := by omega
                  kernel_rfl
                · obtain rfl : k = 217 := by omega
                  kernel_rfl
              · by_cases h218_220 : k < 219
                · obtain rfl : k = 218 := by omega
                  kernel_rfl
                · obtain rfl : k = 219 := by omega
                  kernel_rfl
            · by_cases h220_224 : k < 222
              · by_cases h220_222 : k < 221
                · obtain rfl : k = 220 := by omega
                  kernel_rfl
                · obtain rfl : k = 221 := by omega
                  kernel_rfl
              · by_cases h222_224 : k < 223
                · obtain rfl : k = 222 := by omega
                  kernel_rfl
                · obtain rfl : k = 223 := by omega
                  kernel_rfl
      · by_cases h224_256 : k < 240
        · by_cases h224_240 : k < 232
          · by_cases h224_232 : k < 228
            · by_cases h224_228 : k < 226
              · by_cases h224_226 : k < 225
                · obtain rfl : k = 224 := by omega
                  kernel_rfl
                · obtain rfl : k = 225 := by omega
                  kernel_rfl
              · by_cases h226_228 : k < 227
                · obtain rfl : k = 226 := by omega
                  kernel_rfl
                · obtain rfl : k = 227 := by omega
                  kernel_rfl
            · by_cases h228_232 : k < 230
              · by_cases h228_230 : k < 229
                · obtain rfl : k = 228 := by omega
                  kernel_rfl
                · obtain rfl : k = 229 := by omega
                  kernel_rfl
              · by_cases h230_232 : k < 231
                · obtain rfl : k = 230 := by omega
                  kernel_rfl
                · obtain rfl : k = 231 := by omega
                  kernel_rfl
          · by_cases h232_240 : k < 236
            · by_cases h232_236 : k < 234
              · by_cases h232_234 : k < 233
                · obtain rfl : k = 232 := by omega
                  kernel_rfl
                · obtain rfl : k = 233 := by omega
                  kernel_rfl
              · by_cases h234_236 : k < 235
                · obtain rfl : k = 234 := by omega
                  kernel_rfl
                · obtain rfl : k = 235 := by omega
                  kernel_rfl
            · by_cases h236_240 : k < 238
              · by_cases h236_238 : k < 237
                · obtain rfl : k = 236 := by omega
                  kernel_rfl
                · obtain rfl : k = 237 := by omega
                  kernel_rfl
              · by_cases h238_240 : k < 239
                · obtain rfl : k = 238 := by omega
                  kernel_rfl
                · obtain rfl : k = 239 := by omega
                  kernel_rfl
        · by_cases h240_256 : k < 248
          · by_cases h240_248 : k < 244
            · by_cases h240_244 : k < 242
              · by_cases h240_242 : k < 241
                · obtain rfl : k = 240 := by omega
                  kernel_rfl
                · obtain rfl : k = 241 := by omega
                  kernel_rfl
              · by_cases h242_244 : k < 243
                · obtain rfl : k = 242 := by omega
                  kernel_rfl
                · obtain rfl : k = 243 := by omega
                  kernel_rfl
            · by_cases h244_248 : k < 246
              · by_cases h244_246 : k < 245
                · obtain rfl : k = 244 := by omega
                  kernel_rfl
                · obtain rfl : k = 245 := by omega
                  kernel_rfl
              · by_cases h246_248 : k < 247
                · obtain rfl : k = 246 := by omega
                  kernel_rfl
                · obtain rfl : k = 247 := by omega
                  kernel_rfl
          · by_cases h248_256 : k < 252
            · by_cases h248_252 : k < 250
              · by_cases h248_250 : k < 249
                · obtain rfl : k = 248 := by omega
                  kernel_rfl
                · obtain rfl : k = 249 := by omega
                  kernel_rfl
              · by_cases h250_252 : k < 251
                · obtain rfl : k = 250 := by omega
                  kernel_rfl
                · obtain rfl : k = 251 := by omega
                  kernel_rfl
            · by_cases h252_256 : k < 254
              · by_cases h252_254 : k < 253
                · obtain rfl : k = 252 := by omega
                  kernel_rfl
                · obtain rfl : k = 253 := by omega
                  kernel_rfl
              · by_cases h254_256 : k < 255
                · obtain rfl : k = 254 := by omega
                  kernel_rfl
                · obtain rfl : k = 255 := by omega
                  kernel_rfl
theorem slAN (k : Nat) (hk : k < 256) : segR ((Ck3 Try.prog).into 50 0) 60 2 (slB Try.prog) [1, 4, 5] [.slot 4, .slot 5] (enter Try.f50 [.int .u8 (k : Int), .slice none 0 0] []) = some (slSN (sml k)) := by
  by_cases h0_256 : k < 128
  · by_cases h0_128 : k < 64
    · by_cases h0_64 : k < 32
      · by_cases h0_32 : k < 16
        · by_cases h0_16 : k < 8
          · by_cases h0_8 : k < 4
            · by_cases h0_4 : k < 2
              · by_cases h0_2 : k < 1
                · obtain rfl : k = 0 := by omega
                  kernel_rfl
                · obtain rfl : k = 1 := by omega
                  kernel_rfl
              · by_cases h2_4 : k < 3
                · obtain rfl : k = 2 := by omega
                  kernel_rfl
                · obtain rfl : k = 3 := by omega
                  kernel_rfl
            · by_cases h4_8 : k < 6
              · by_cases h4_6 : k < 5
                · obtain rfl : k = 4 := by omega
                  kernel_rfl
                · obtain rfl : k = 5 := by omega
                  kernel_rfl
              · by_cases h6_8 : k < 7
                · obtain rfl : k = 6 := by omega
                  kernel_rfl
                · obtain rfl : k = 7 := by omega
                  kernel_rfl
          · by_cases h8_16 : k < 12
            · by_cases h8_12 : k < 10
              · by_cases h8_10 : k < 9
                · obtain rfl : k = 8 := by omega
                  kernel_rfl
                · obtain rfl : k = 9 := by omega
                  kernel_rfl
              · by_cases h10_12 : k < 11
                · obtain rfl : k = 10 := by omega
                  kernel_rfl
                · obtain rfl : k = 11 := by omega
                  kernel_rfl
            · by_cases h12_16 : k < 14
              · by_cases h12_14 : k < 13
                · obtain rfl : k = 12 := by omega
                  kernel_rfl
                · obtain rfl : k = 13 := by omega
                  kernel_rfl
              · by_cases h14_16 : k < 15
                · obtain rfl : k = 14 := by omega
                  kernel_rfl
                · obtain rfl : k = 15 := by omega
                  kernel_rfl
        · by_cases h16_32 : k < 24
          · by_cases h16_24 : k < 20
            · by_cases h16_20 : k < 18
              · by_cases h16_18 : k < 17
                · obtain rfl : k = 16 := by omega
                  kernel_rfl
                · obtain rfl : k = 17 := by omega
                  kernel_rfl
              · by_cases h18_20 : k < 19
                · obtain rfl : k = 18 := by omega
                  kernel_rfl
                · obtain rfl : k = 19 := by omega
                  kernel_rfl
            · by_cases h20_24 : k < 22
              · by_cases h20_22 : k < 21
                · obtain rfl : k = 20 := by omega
                  kernel_rfl
                · obtain rfl : k = 21 := by omega
                  kernel_rfl
              · by_cases h22_24 : k < 23
                · obtain rfl : k = 22 := by omega
                  kernel_rfl
                · obtain rfl : k = 23 := by omega
                  kernel_rfl
          · by_cases h24_32 : k < 28
            · by_cases h24_28 : k < 26
              · by_cases h24_26 : k < 25
                · obtain rfl : k = 24 := by omega
                  kernel_rfl
                · obtain rfl : k = 25 := by omega
                  kernel_rfl
              · by_cases h26_28 : k < 27
                · obtain rfl : k = 26 := by omega
                  kernel_rfl
                · obtain rfl : k = 27 := by omega
                  kernel_rfl
            · by_cases h28_32 : k < 30
              · by_cases h28_30 : k < 29
                · obtain rfl : k = 28 := by omega
                  kernel_rfl
                · obtain rfl : k = 29 := by omega
                  kernel_rfl
              · by_cases h30_32 : k < 31
                · obtain rfl : k = 30 := by omega
                  kernel_rfl
                · obtain rfl : k = 31 := by omega
                  kernel_rfl
      · by_cases h32_64 : k < 48
        · by_cases h32_48 : k < 40
          · by_cases h32_40 : k < 36
            · by_cases h32_36 : k < 34
              · by_cases h32_34 : k < 33
                · obtain rfl : k = 32 := by omega
                  kernel_rfl
                · obtain rfl : k = 33 := by omega
                  kernel_rfl
              · by_cases h34_36 : k < 35
                · obtain rfl : k = 34 := by omega
                  kernel_rfl
                · obtain rfl : k = 35 := by omega
                  kernel_rfl
            · by_cases h36_40 : k < 38
              · by_cases h36_38 : k < 37
                · obtain rfl : k = 36 := by omega
                  kernel_rfl
                · obtain rfl : k = 37 := by omega
                  kernel_rfl
              · by_cases h38_40 : k < 39
                · obtain rfl : k = 38 := by omega
                  kernel_rfl
                · obtain rfl : k = 39 := by omega
                  kernel_rfl
          · by_cases h40_48 : k < 44
            · by_cases h40_44 : k < 42
              · by_cases h40_42 : k < 41
                · obtain rfl : k = 40 := by omega
                  kernel_rfl
                · obtain rfl : k = 41 := by omega
                  kernel_rfl
              · by_cases h42_44 : k < 43
                · obtain rfl : k = 42 := by omega
                  kernel_rfl
                · obtain rfl : k = 43 := by omega
                  kernel_rfl
            · by_cases h44_48 : k < 46
              · by_cases h44_46 : k < 45
                · obtain rfl : k = 44 := by omega
                  kernel_rfl
                · obtain rfl : k = 45 := by omega
                  kernel_rfl
              · by_cases h46_48 : k < 47
                · obtain rfl : k = 46 := by omega
                  kernel_rfl
                · obtain rfl : k = 47 := by omega
                  kernel_rfl
        · by_cases h48_64 : k < 56
          · by_cases h48_56 : k < 52
            · by_cases h48_52 : k < 50
              · by_cases h48_50 : k < 49
                · obtain rfl : k = 48 := by omega
                  kernel_rfl
                · obtain rfl : k = 49 := by omega
                  kernel_rfl
              · by_cases h50_52 : k < 51
                · obtain rfl : k = 50 := by omega
                  kernel_rfl
                · obtain rfl : k = 51 := by omega
                  kernel_rfl
            · by_cases h52_56 : k < 54
              · by_cases h52_54 : k < 53
                · obtain rfl : k = 52 := by omega
                  kernel_rfl
                · obtain rfl : k = 53 := by omega
                  kernel_rfl
              · by_cases h54_56 : k < 55
                · obtain rfl : k = 54 := by omega
                  kernel_rfl
                · obtain rfl : k = 55 := by omega
                  kernel_rfl
          · by_cases h56_64 : k < 60
            · by_cases h56_60 : k < 58
              · by_cases h56_58 : k < 57
                · obtain rfl : k = 56 := by omega
                  kernel_rfl
                · obtain rfl : k = 57 := by omega
                  kernel_rfl
              · by_cases h58_60 : k < 59
                · obtain rfl : k = 58 := by omega
                  kernel_rfl
                · obtain rfl : k = 59 := by omega
                  kernel_rfl
            · by_cases h60_64 : k < 62
              · by_cases h60_62 : k < 61
                · obtain rfl : k = 60 := by omega
                  kernel_rfl
                · obtain rfl : k = 61 := by omega
                  kernel_rfl
              · by_cases h62_64 : k < 63
                · obtain rfl : k = 62 := by omega
                  kernel_rfl
                · obtain rfl : k = 63 := by omega
                  kernel_rfl
    · by_cases h64_128 : k < 96
      · by_cases h64_96 : k < 80
        · by_cases h64_80 : k < 72
          · by_cases h64_72 : k < 68
            · by_cases h64_68 : k < 66
              · by_cases h64_66 : k < 65
                · obtain rfl : k = 64 := by omega
                  kernel_rfl
                · obtain rfl : k = 65 := by omega
                  kernel_rfl
              · by_cases h66_68 : k < 67
                · obtain rfl : k = 66 := by omega
                  kernel_rfl
                · obtain rfl : k = 67 := by omega
                  kernel_rfl
            · by_cases h68_72 : k < 70
              · by_cases h68_70 : k < 69
                · obtain rfl : k = 68 := by omega
                  kernel_rfl
                · obtain rfl : k = 69 := by omega
                  kernel_rfl
              · by_cases h70_72 : k < 71
                · obtain rfl : k = 70 := by omega
                  kernel_rfl
                · obtain rfl : k = 71 := by omega
                  kernel_rfl
          · by_cases h72_80 : k < 76
            · by_cases h72_76 : k < 74
              · by_cases h72_74 : k < 73
                · obtain rfl : k = 72 := by omega
                  kernel_rfl
                · obtain rfl : k = 73 := by omega
                  kernel_rfl
              · by_cases h74_76 : k < 75
                · obtain rfl : k = 74 := by omega
                  kernel_rfl
                · obtain rfl : k = 75 := by omega
                  kernel_rfl
            · by_cases h76_80 : k < 78
              · by_cases h76_78 : k < 77
                · obtain rfl : k = 76 := by omega
                  kernel_rfl
                · obtain rfl : k = 77 := by omega
                  kernel_rfl
              · by_cases h78_80 : k < 79
                · obtain rfl : k = 78 := by omega
                  kernel_rfl
                · obtain rfl : k = 79 := by omega
                  kernel_rfl
        · by_cases h80_96 : k < 88
          · by_cases h80_88 : k < 84
            · by_cases h80_84 : k < 82
              · by_cases h80_82 : k < 81
                · obtain rfl : k = 80 := by omega
                  kernel_rfl
                · obtain rfl : k = 81 := by omega
                  kernel_rfl
              · by_cases h82_84 : k < 83
                · obtain rfl : k = 82 := by omega
                  kernel_rfl
                · obtain rfl : k = 83 := by omega
                  kernel_rfl
            · by_cases h84_88 : k < 86
              · by_cases h84_86 : k < 85
                · obtain rfl : k = 84 := by omega
                  kernel_rfl
                · obtain rfl : k = 85 := by omega
                  kernel_rfl
              · by_cases h86_88 : k < 87
                · obtain rfl : k = 86 := by omega
                  kernel_rfl
                · obtain rfl : k = 87 := by omega
                  kernel_rfl
          · by_cases h88_96 : k < 92
            · by_cases h88_92 : k < 90
              · by_cases h88_90 : k < 89
                · obtain rfl : k = 88 := by omega
                  kernel_rfl
                · obtain rfl : k = 89 := by omega
                  kernel_rfl
              · by_cases h90_92 : k < 91
                · obtain rfl : k = 90 := by omega
                  kernel_rfl
                · obtain rfl : k = 91 := by omega
                  kernel_rfl
            · by_cases h92_96 : k < 94
              · by_cases h92_94 : k < 93
                · obtain rfl : k = 92 := by omega
                  kernel_rfl
                · obtain rfl : k = 93 := by omega
                  kernel_rfl
              · by_cases h94_96 : k < 95
                · obtain rfl : k = 94 := by omega
                  kernel_rfl
                · obtain rfl : k = 95 := by omega
                  kernel_rfl
      · by_cases h96_128 : k < 112
        · by_cases h96_112 : k < 104
          · by_cases h96_104 : k < 100
            · by_cases h96_100 : k < 98
              · by_cases h96_98 : k < 97
                · obtain rfl : k = 96 := by omega
                  kernel_rfl
                · obtain rfl : k = 97 := by omega
                  kernel_rfl
              · by_cases h98_100 : k < 99
                · obtain rfl : k = 98 := by omega
                  kernel_rfl
                · obtain rfl : k = 99 := by omega
                  kernel_rfl
            · by_cases h100_104 : k < 102
              · by_cases h100_102 : k < 101
                · obtain rfl : k = 100 := by omega
                  kernel_rfl
                · obtain rfl : k = 101 := by omega
                  kernel_rfl
              · by_cases h102_104 : k < 103
                · obtain rfl : k = 102 := by omega
                  kernel_rfl
                · obtain rfl : k = 103 := by omega
                  kernel_rfl
          · by_cases h104_112 : k < 108
            · by_cases h104_108 : k < 106
              · by_cases h104_106 : k < 105
                · obtain rfl : k = 104 := by omega
                  kernel_rfl
                · obtain rfl : k = 105 := by omega
                  kernel_rfl
              · by_cases h106_108 : k < 107
                · obtain rfl : k = 106 := by omega
                  kernel_rfl
                · obtain rfl : k = 107 := by omega
                  kernel_rfl
            · by_cases h108_112 : k < 110
              · by_cases h108_110 : k < 109
                · obtain rfl : k = 108 := by omega
                  kernel_rfl
                · obtain rfl : k = 109 := by omega
                  kernel_rfl
              · by_cases h110_112 : k < 111
                · obtain rfl : k = 110 := by omega
                  kernel_rfl
                · obtain rfl : k = 111 := by omega
                  kernel_rfl
        · by_cases h112_128 : k < 120
          · by_cases h112_120 : k < 116
            · by_cases h112_116 : k < 114
              · by_cases h112_114 : k < 113
                · obtain rfl : k = 112 := by omega
                  kernel_rfl
                · obtain rfl : k = 113 := by omega
                  kernel_rfl
              · by_cases h114_116 : k < 115
                · obtain rfl : k = 114 := by omega
                  kernel_rfl
                · obtain rfl : k = 115 := by omega
                  kernel_rfl
            · by_cases h116_120 : k < 118
              · by_cases h116_118 : k < 117
                · obtain rfl : k = 116 := by omega
                  kernel_rfl
                · obtain rfl : k = 117 := by omega
                  kernel_rfl
              · by_cases h118_120 : k < 119
                · obtain rfl : k = 118 := by omega
                  kernel_rfl
                · obtain rfl : k = 119 := by omega
                  kernel_rfl
          · by_cases h120_128 : k < 124
            · by_cases h120_124 : k < 122
              · by_cases h120_122 : k < 121
                · obtain rfl : k = 120 := by omega
                  kernel_rfl
                · obtain rfl : k = 121 := by omega
                  kernel_rfl
              · by_cases h122_124 : k < 123
                · obtain rfl : k = 122 := by omega
                  kernel_rfl
                · obtain rfl : k = 123 := by omega
                  kernel_rfl
            · by_cases h124_128 : k < 126
              · by_cases h124_126 : k < 125
                · obtain rfl : k = 124 := by omega
                  kernel_rfl
                · obtain rfl : k = 125 := by omega
                  kernel_rfl
              · by_cases h126_128 : k < 127
                · obtain rfl : k = 126 := by omega
                  kernel_rfl
                · obtain rfl : k = 127 := by omega
                  kernel_rfl
  · by_cases h128_256 : k < 192
    · by_cases h128_192 : k < 160
      · by_cases h128_160 : k < 144
        · by_cases h128_144 : k < 136
          · by_cases h128_136 : k < 132
            · by_cases h128_132 : k < 130
              · by_cases h128_130 : k < 129
                · obtain rfl : k = 128 := by omega
                  kernel_rfl
                · obtain rfl : k = 129 := by omega
                  kernel_rfl
              · by_cases h130_132 : k < 131
                · obtain rfl : k = 130 := by omega
                  kernel_rfl
                · obtain rfl : k = 131 := by omega
                  kernel_rfl
            · by_cases h132_136 : k < 134
              · by_cases h132_134 : k < 133
                · obtain rfl : k = 132 := by omega
                  kernel_rfl
                · obtain rfl : k = 133 := by omega
                  kernel_rfl
              · by_cases h134_136 : k < 135
                · obtain rfl : k = 134 := by omega
                  kernel_rfl
                · obtain rfl : k = 135 := by omega
                  kernel_rfl
          · by_cases h136_144 : k < 140
            · by_cases h136_140 : k < 138
              · by_cases h136_138 : k < 137
                · obtain rfl : k = 136 := by omega
                  kernel_rfl
                · obtain rfl : k = 137 := by omega
                  kernel_rfl
              · by_cases h138_140 : k < 139
                · obtain rfl : k = 138 := by omega
                  kernel_rfl
                · obtain rfl : k = 139 := by omega
                  kernel_rfl
            · by_cases h140_144 : k < 142
              · by_cases h140_142 : k < 141
                · obtain rfl : k = 140 := by omega
                  kernel_rfl
                · obtain rfl : k = 141 := by omega
                  kernel_rfl
              · by_cases h142_144 : k < 143
                · obtain rfl : k = 142 := by omega
                  kernel_rfl
                · obtain rfl : k = 143 := by omega
                  kernel_rfl
        · by_cases h144_160 : k < 152
          · by_cases h144_152 : k < 148
            · by_cases h144_148 : k < 146
              · by_cases h144_146 : k < 145
                · obtain rfl : k = 144 := by omega
                  kernel_rfl
                · obtain rfl : k = 145 := by omega
                  kernel_rfl
              · by_cases h146_148 : k < 147
                · obtain rfl : k = 146 := by omega
                  kernel_rfl
                · obtain rfl : k = 147 := by omega
                  kernel_rfl
            · by_cases h148_152 : k < 150
              · by_cases h148_150 : k < 149
                · obtain rfl : k = 148 := by omega
                  kernel_rfl
                · obtain rfl : k = 149 := by omega
                  kernel_rfl
              · by_cases h150_152 : k < 151
                · obtain rfl : k = 150 := by omega
                  kernel_rfl
                · obtain rfl : k = 151 := by omega
                  kernel_rfl
          · by_cases h152_160 : k < 156
            · by_cases h152_156 : k < 154
              · by_cases h152_154 : k < 153
                · obtain rfl : k = 152 := by omega
                  kernel_rfl
                · obtain rfl : k = 153 := by omega
                  kernel_rfl
              · by_cases h154_156 : k < 155
                · obtain rfl : k = 154 := by omega
                  kernel_rfl
                · obtain rfl : k = 155 := by omega
                  kernel_rfl
            · by_cases h156_160 : k < 158
              · by_cases h156_158 : k < 157
                · obtain rfl : k = 156 := by omega
                  kernel_rfl
                · obtain rfl : k = 157 := by omega
                  kernel_rfl
              · by_cases h158_160 : k < 159
                · obtain rfl : k = 158 := by omega
                  kernel_rfl
                · obtain rfl : k = 159 := by omega
                  kernel_rfl
      · by_cases h160_192 : k < 176
        · by_cases h160_176 : k < 168
          · by_cases h160_168 : k < 164
            · by_cases h160_164 : k < 162
              · by_cases h160_162 : k < 161
                · obtain rfl : k = 160 := by omega
                  kernel_rfl
                · obtain rfl : k = 161 := by omega
                  kernel_rfl
              · by_cases h162_164 : k < 163
                · obtain rfl : k = 162 := by omega
                  kernel_rfl
                · obtain rfl : k = 163 := by omega
                  kernel_rfl
            · by_cases h164_168 : k < 166
              · by_cases h164_166 : k < 165
                · obtain rfl : k = 164 := by omega
                  kernel_rfl
                · obtain rfl : k = 165 := by omega
                  kernel_rfl
              · by_cases h166_168 : k < 167
                · obtain rfl : k = 166 := by omega
                  kernel_rfl
                · obtain rfl : k = 167 := by omega
                  kernel_rfl
          · by_cases h168_176 : k < 172
            · by_cases h168_172 : k < 170
              · by_cases h168_170 : k < 169
                · obtain rfl : k = 168 := by omega
                  kernel_rfl
                · obtain rfl : k = 169 := by omega
                  kernel_rfl
              · by_cases h170_172 : k < 171
                · obtain rfl : k = 170 := by omega
                  kernel_rfl
                · obtain rfl : k = 171 := by omega
                  kernel_rfl
            · by_cases h172_176 : k < 174
              · by_cases h172_174 : k < 173
                · obtain rfl : k = 172 := by omega
                  kernel_rfl
                · obtain rfl : k = 173 := by omega
                  kernel_rfl
              · by_cases h174_176 : k < 175
                · obtain rfl : k = 174 := by omega
                  kernel_rfl
                · obtain rfl : k = 175 := by omega
                  kernel_rfl
        · by_cases h176_192 : k < 184
          · by_cases h176_184 : k < 180
            · by_cases h176_180 : k < 178
              · by_cases h176_178 : k < 177
                · obtain rfl : k = 176 := by omega
                  kernel_rfl
                · obtain rfl : k = 177 := by omega
                  kernel_rfl
              · by_cases h178_180 : k < 179
                · obtain rfl : k = 178 := by omega
                  kernel_rfl
                · obtain rfl : k = 179 := by omega
                  kernel_rfl
            · by_cases h180_184 : k < 182
              · by_cases h180_182 : k < 181
                · obtain rfl : k = 180 := by omega
                  kernel_rfl
                · obtain rfl : k = 181 := by omega
                  kernel_rfl
              · by_cases h182_184 : k < 183
                · obtain rfl : k = 182 := by omega
                  kernel_rfl
                · obtain rfl : k = 183 := by omega
                  kernel_rfl
          · by_cases h184_192 : k < 188
            · by_cases h184_188 : k < 186
              · by_cases h184_186 : k < 185
                · obtain rfl : k = 184 := by omega
                  kernel_rfl
                · obtain rfl : k = 185 := by omega
                  kernel_rfl
              · by_cases h186_188 : k < 187
                · obtain rfl : k = 186 := by omega
                  kernel_rfl
                · obtain rfl : k = 187 := by omega
                  kernel_rfl
            · by_cases h188_192 : k < 190
              · by_cases h188_190 : k < 189
                · obtain rfl : k = 188 := by omega
                  kernel_rfl
                · obtain rfl : k = 189 := by omega
                  kernel_rfl
              · by_cases h190_192 : k < 191
                · obtain rfl : k = 190 := by omega
                  kernel_rfl
                · obtain rfl : k = 191 := by omega
                  kernel_rfl
    · by_cases h192_256 : k < 224
      · by_cases h192_224 : k < 208
        · by_cases h192_208 : k < 200
          · by_cases h192_200 : k < 196
            · by_cases h192_196 : k < 194
              · by_cases h192_194 : k < 193
                · obtain rfl : k = 192 := by omega
                  kernel_rfl
                · obtain rfl : k = 193 := by omega
                  kernel_rfl
              · by_cases h194_196 : k < 195
                · obtain rfl : k = 194 := by omega
                  kernel_rfl
                · obtain rfl : k = 195 := by omega
                  kernel_rfl
            · by_cases h196_200 : k < 198
              · by_cases h196_198 : k < 197
                · obtain rfl : k = 196 := by omega
                  kernel_rfl
                · obtain rfl : k = 197 := by omega
                  kernel_rfl
              · by_cases h198_200 : k < 199
                · obtain rfl : k = 198 := by omega
                  kernel_rfl
                · obtain rfl : k = 199 := by omega
                  kernel_rfl
          · by_cases h200_208 : k < 204
            · by_cases h200_204 : k < 202
              · by_cases h200_202 : k < 201
                · obtain rfl : k = 200 := by omega
                  kernel_rfl
                · obtain rfl : k = 201 := by omega
                  kernel_rfl
              · by_cases h202_204 : k < 203
                · obtain rfl : k = 202 := by omega
                  kernel_rfl
                · obtain rfl : k = 203 := by omega
                  kernel_rfl
            · by_cases h204_208 : k < 206
              · by_cases h204_206 : k < 205
                · obtain rfl : k = 204 := by omega
                  kernel_rfl
                · obtain rfl : k = 205 := by omega
                  kernel_rfl
              · by_cases h206_208 : k < 207
                · obtain rfl : k = 206 := by omega
                  kernel_rfl
                · obtain rfl : k = 207 := by omega
                  kernel_rfl
        · by_cases h208_224 : k < 216
          · by_cases h208_216 : k < 212
            · by_cases h208_212 : k < 210
              · by_cases h208_210 : k < 209
                · obtain rfl : k = 208 := by omega
                  kernel_rfl
                · obtain rfl : k = 209 := by omega
                  kernel_rfl
              · by_cases h210_212 : k < 211
                · obtain rfl : k = 210 := by omega
                  kernel_rfl
                · obtain rfl : k = 211 := by omega
                  kernel_rfl
            · by_cases h212_216 : k < 214
              · by_cases h212_214 : k < 213
                · obtain rfl : k = 212 := by omega
                  kernel_rfl
                · obtain rfl : k = 213 := by omega
                  kernel_rfl
              · by_cases h214_216 : k < 215
                · obtain rfl : k = 214 := by omega
                  kernel_rfl
                · obtain rfl : k = 215 := by omega
                  kernel_rfl
          · by_cases h216_224 : k < 220
            · by_cases h216_220 : k < 218
              · by_cases h216_218 : k < 217
                · obtain rfl : k = 216 := by omega
                  kernel_rfl
                · obtain rfl : k = 217 := by omega
                  kernel_rfl
              · by_cases h218_220 : k < 219
                · obtain rfl : k = 218 := by omega
                  kernel_rfl
                · obtain rfl : k = 219 := by omega
                  kernel_rfl
            · by_cases h220_224 : k < 222
              · by_cases h220_222 : k < 221
                · obtain rfl : k = 220 := by omega
                  kernel_rfl
                · obtain rfl : k = 221 := by omega
                  kernel_rfl
              · by_cases h222_224 : k < 223
                · obtain rfl : k = 222 := by omega
                  kernel_rfl
                · obtain rfl : k = 223 := by omega
                  kernel_rfl
      · by_cases h224_256 : k < 240
        · by_cases h224_240 : k < 232
          · by_cases h224_232 : k < 228
            · by_cases h224_228 : k < 226
              · by_cases h224_226 : k < 225
                · obtain rfl : k = 224 := by omega
                  kernel_rfl
                · obtain rfl : k = 225 := by omega
                  kernel_rfl
              · by_cases h226_228 : k < 227
                · obtain rfl : k = 226 := by omega
                  kernel_rfl
                · obtain rfl : k = 227 := by omega
                  kernel_rfl
            · by_cases h228_232 : k < 230
              · by_cases h228_230 : k < 229
                · obtain rfl : k = 228 := by omega
                  kernel_rfl
                · obtain rfl : k = 229 := by omega
                  kernel_rfl
              · by_cases h230_232 : k < 231
                · obtain rfl : k = 230 := by omega
                  kernel_rfl
                · obtain rfl : k = 231 := by omega
                  kernel_rfl
          · by_cases h232_240 : k < 236
            · by_cases h232_236 : k < 234
              · by_cases h232_234 : k < 233
                · obtain rfl : k = 232 := by omega
                  kernel_rfl
                · obtain rfl : k = 233 := by omega
                  kernel_rfl
              · by_cases h234_236 : k < 235
                · obtain rfl : k = 234 := by omega
                  kernel_rfl
                · obtain rfl : k = 235 := by omega
                  kernel_rfl
            · by_cases h236_240 : k < 238
              · by_cases h236_238 : k < 237
                · obtain rfl : k = 236 := by omega
                  kernel_rfl
                · obtain rfl : k = 237 := by omega
                  kernel_rfl
              · by_cases h238_240 : k < 239
                · obtain rfl : k = 238 := by omega
                  kernel_rfl
                · obtain rfl : k = 239 := by omega
                  kernel_rfl
        · by_cases h240_256 : k < 248
          · by_cases h240_248 : k < 244
            · by_cases h240_244 : k < 242
              · by_cases h240_242 : k < 241
                · obtain rfl : k = 240 := by omega
                  kernel_rfl
                · obtain rfl : k = 241 := by omega
                  kernel_rfl
              · by_cases h242_244 : k < 243
                · obtain rfl : k = 242 := by omega
                  kernel_rfl
                · obtain rfl : k = 243 := by omega
                  kernel_rfl
            · by_cases h244_248 : k < 246
              · by_cases h244_246 : k < 245
                · obtain rfl : k = 244 := by omega
                  kernel_rfl
                · obtain rfl : k = 245 := by omega
                  kernel_rfl
              · by_cases h246_248 : k < 247
                · obtain rfl : k = 246 := by omega
                  kernel_rfl
                · obtain rfl : k = 247 := by omega
                  kernel_rfl
          · by_cases h248_256 : k < 252
            · by_cases h248_252 : k < 250
              · by_cases h248_250 : k < 249
                · obtain rfl : k = 248 := by omega
                  kernel_rfl
                · obtain rfl : k = 249 := by omega
                  kernel_rfl
              · by_cases h250_252 : k < 251
                · obtain rfl : k = 250 := by omega
                  kernel_rfl
                · obtain rfl : k = 251 := by omega
                  kernel_rfl
            · by_cases h252_256 : k < 254
              · by_cases h252_254 : k < 253
                · obtain rfl : k = 252 := by omega
                  kernel_rfl
                · obtain rfl : k = 253 := by omega
                  kernel_rfl
              · by_cases h254_256 : k < 255
                · obtain rfl : k = 254 := by omega
                  kernel_rfl
                · obtain rfl : k = 255 := by omega
                  kernel_rfl
end Go.Proofs.Ytjhijkdicmbbiaa
