/-
  Words of errors.
-/
import Derived.Test.YtkilngknklpadaaGreatDoorAc
namespace Go.Proofs.YtkilngknklpadaaGreatDoor
open Go.RowKit
set_option linter.unusedVariables false
set_option linter.unusedSimpArgs false
set_option maxRecDepth 100000

set_option maxHeartbeats 16000000 in
theorem words13 (e : Int) : ∃ s : ByteArray, s.size ≤ 20 ∧ ∀ w, Calls Tryz.prog 13 #[.int .i64 e] w fun x w' => x = .returned (.string s) ∧ w' = w := by
  by_cases h0 : e = 1
  · subst h0
    exact ⟨⟨#[97, 114, 103]⟩, by decide, fun w => by
      go_enter Tryz.func13, Tryz.ntmps13
      go_wp2
      go_ret
      exact ⟨rfl, rfl⟩⟩
  have g0 : (e == 1) = false := by simp [h0]
  clear h0
  by_cases h1 : e = 2
  · subst h1
    exact ⟨⟨#[108, 111, 110, 103]⟩, by decide, fun w => by
      go_enter Tryz.func13, Tryz.ntmps13
      go_wp2
      go_ret
      exact ⟨rfl, rfl⟩⟩
  have g1 : (e == 2) = false := by simp [h1]
  clear h1
  by_cases h2 : e = 3
  · subst h2
    exact ⟨⟨#[119, 105, 100, 116, 104]⟩, by decide, fun w => by
      go_enter Tryz.func13, Tryz.ntmps13
      go_wp2
      go_ret
      exact ⟨rfl, rfl⟩⟩
  have g2 : (e == 3) = false := by simp [h2]
  clear h2
  by_cases h3 : e = 11
  · subst h3
    exact ⟨⟨#[99, 117, 116]⟩, by decide, fun w => by
      go_enter Tryz.func13, Tryz.ntmps13
      go_wp2
      go_ret
      exact ⟨rfl, rfl⟩⟩
  have g3 : (e == 11) = false := by simp [h3]
  clear h3
  by_cases h4 : e = 12
  · subst h4
    exact ⟨⟨#[102, 111, 114, 109]⟩, by decide, fun w => by
      go_enter Tryz.func13, Tryz.ntmps13
      go_wp2
      go_ret
      exact ⟨rfl, rfl⟩⟩
  have g4 : (e == 12) = false := by simp [h4]
  clear h4
  by_cases h5 : e = 13
  · subst h5
    exact ⟨⟨#[116, 97, 105, 108]⟩, by decide, fun w => by
      go_enter Tryz.func13, Tryz.ntmps13
      go_wp2
      go_ret
      exact ⟨rfl, rfl⟩⟩
  have g5 : (e == 13) = false := by simp [h5]
  clear h5
  by_cases h6 : e = 21
  · subst h6
    exact ⟨⟨#[116, 101, 120, 116]⟩, by decide, fun w => by
      go_enter Tryz.func13, Tryz.ntmps13
      go_wp2
      go_ret
      exact ⟨rfl, rfl⟩⟩
  have g6 : (e == 21) = false := by simp [h6]
  clear h6
  by_cases h7 : e = 31
  · subst h7
    exact ⟨⟨#[110, 97, 109, 101]⟩, by decide, fun w => by
      go_enter Tryz.func13, Tryz.ntmps13
      go_wp2
      go_ret
      exact ⟨rfl, rfl⟩⟩
  have g7 : (e == 31) = false := by simp [h7]
  clear h7
  by_cases h8 : e = 32
  · subst h8
    exact ⟨⟨#[114, 111, 111, 116]⟩, by decide, fun w => by
      go_enter Tryz.func13, Tryz.ntmps13
      go_wp2
      go_ret
      exact ⟨rfl, rfl⟩⟩
  have g8 : (e == 32) = false := by simp [h8]
  clear h8
  by_cases h9 : e = 33
  · subst h9
    exact ⟨⟨#[100, 101, 101, 112]⟩, by decide, fun w => by
      go_enter Tryz.func13, Tryz.ntmps13
      go_wp2
      go_ret
      exact ⟨rfl, rfl⟩⟩
  have g9 : (e == 33) = false := by simp [h9]
  clear h9
  by_cases h10 : e = 34
  · subst h10
    exact ⟨⟨#[103, 108, 111, 98]⟩, by decide, fun w => by
      go_enter Tryz.func13, Tryz.ntmps13
      go_wp2
      go_ret
      exact ⟨rfl, rfl⟩⟩
  have g10 : (e == 34) = false := by simp [h10]
  clear h10
  by_cases h11 : e = 41
  · subst h11
    exact ⟨⟨#[109, 105, 115, 115, 105, 110, 103]⟩, by decide, fun w => by
      go_enter Tryz.func13, Tryz.ntmps13
      go_wp2
      go_ret
      exact ⟨rfl, rfl⟩⟩
  have g11 : (e == 41) = false := by simp [h11]
  clear h11
  by_cases h12 : e = 42
  · subst h12
    exact ⟨⟨#[99, 111, 114, 114, 117, 112, 116]⟩, by decide, fun w => by
      go_enter Tryz.func13, Tryz.ntmps13
      go_wp2
      go_ret
      exact ⟨rfl, rfl⟩⟩
  have g12 : (e == 42) = false := by simp [h12]
  clear h12
  by_cases h13 : e = 43
  · subst h13
    exact ⟨⟨#[102, 117, 108, 108]⟩, by decide, fun w => by
      go_enter Tryz.func13, Tryz.ntmps13
      go_wp2
      go_ret
      exact ⟨rfl, rfl⟩⟩
  have g13 : (e == 43) = false := by simp [h13]
  clear h13
  by_cases h14 : e = 44
  · subst h14
    exact ⟨⟨#[99, 108, 97, 115, 104]⟩, by decide, fun w => by
      go_enter Tryz.func13, Tryz.ntmps13
      go_wp2
      go_ret
      exact ⟨rfl, rfl⟩⟩
  have g14 : (e == 44) = false := by simp [h14]
  clear h14
  by_cases h15 : e = 51
  · subst h15
    exact ⟨⟨#[101, 110, 116, 114, 121]⟩, by decide, fun w => by
      go_enter Tryz.func13, Tryz.ntmps13
      go_wp2
      go_ret
      exact ⟨rfl, rfl⟩⟩
  have g15 : (e == 51) = false := by simp [h15]
  clear h15
  by_cases h16 : e = 52
  · subst h16
    exact ⟨⟨#[116, 97, 103]⟩, by decide, fun w => by
      go_enter Tryz.func13, Tryz.ntmps13
      go_wp2
      go_ret
      exact ⟨rfl, rfl⟩⟩
  have g16 : (e == 52) = false := by simp [h16]
  clear h16
  by_cases h17 : e = 62
  · subst h17
    exact ⟨⟨#[110, 111, 100, 101, 115]⟩, by decide, fun w => by
      go_enter Tryz.func13, Tryz.ntmps13
      go_wp2
      go_ret
      exact ⟨rfl, rfl⟩⟩
  have g17 : (e == 62) = false := by simp [h17]
  clear h17
  by_cases h18 : e = 63
  · subst h18
    exact ⟨⟨#[98, 121, 116, 101, 115]⟩, by decide, fun w => by
      go_enter Tryz.func13, Tryz.ntmps13
      go_wp2
      go_ret
      exact ⟨rfl, rfl⟩⟩
  have g18 : (e == 63) = false := by simp [h18]
  clear h18
  by_cases h19 : e = 64
  · subst h19
    exact ⟨⟨#[105, 116, 101, 109, 115]⟩, by decide, fun w => by
      go_enter Tryz.func13, Tryz.ntmps13
      go_wp2
      go_ret
      exact ⟨rfl, rfl⟩⟩
  have g19 : (e == 64) = false := by simp [h19]
  clear h19
  by_cases h20 : e = 65
  · subst h20
    exact ⟨⟨#[107, 101, 101, 112]⟩, by decide, fun w => by
      go_enter Tryz.func13, Tryz.ntmps13
      go_wp2
      go_ret
      exact ⟨rfl, rfl⟩⟩
  have g20 : (e == 65) = false := by simp [h20]
  clear h20
  by_cases h21 : e = 71
  · subst h21
    exact ⟨⟨#[101, 100, 105, 116]⟩, by decide, fun w => by
      go_enter Tryz.func13, Tryz.ntmps13
      go_wp2
      go_ret
      exact ⟨rfl, rfl⟩⟩
  have g21 : (e == 71) = false := by simp [h21]
  clear h21
  exact ⟨⟨#[101, 114, 114, 111, 114]⟩, by decide, fun w => by
    go_enter Tryz.func13, Tryz.ntmps13
    go_wp2
    go_ret
    exact ⟨rfl, rfl⟩⟩
set_option maxHeartbeats 16000000 in
theorem words14 (e : Int) : ∃ s : ByteArray, s.size ≤ 20 ∧ ∀ w, Calls Tryz.prog 14 #[.int .i64 e] w fun x w' => x = .returned (.string s) ∧ w' = w := by
  by_cases h0 : e = 81
  · subst h0
    exact ⟨⟨#[112, 97, 99, 107]⟩, by decide, fun w => by
      go_enter Tryz.func14, Tryz.ntmps14
      go_wp2
      go_ret
      exact ⟨rfl, rfl⟩⟩
  have g0 : (e == 81) = false := by simp [h0]
  clear h0
  by_cases h1 : e = 91
  · subst h1
    exact ⟨⟨#[110, 111, 101, 110, 116]⟩, by decide, fun w => by
      go_enter Tryz.func14, Tryz.ntmps14
      go_wp2
      go_ret
      exact ⟨rfl, rfl⟩⟩
  have g1 : (e == 91) = false := by simp [h1]
  clear h1
  by_cases h2 : e = 92
  · subst h2
    exact ⟨⟨#[105, 115, 100, 105, 114]⟩, by decide, fun w => by
      go_enter Tryz.func14, Tryz.ntmps14
      go_wp2
      go_ret
      exact ⟨rfl, rfl⟩⟩
  have g2 : (e == 92) = false := by simp [h2]
  clear h2
  by_cases h3 : e = 93
  · subst h3
    exact ⟨⟨#[110, 111, 116, 100, 105, 114]⟩, by decide, fun w => by
      go_enter Tryz.func14, Tryz.ntmps14
      go_wp2
      go_ret
      exact ⟨rfl, rfl⟩⟩
  have g3 : (e == 93) = false := by simp [h3]
  clear h3
  by_cases h4 : e = 94
  · subst h4
    exact ⟨⟨#[109, 111, 100, 101]⟩, by decide, fun w => by
      go_enter Tryz.func14, Tryz.ntmps14
      go_wp2
      go_ret
      exact ⟨rfl, rfl⟩⟩
  have g4 : (e == 94) = false := by simp [h4]
  clear h4
  by_cases h5 : e = 95
  · subst h5
    exact ⟨⟨#[104, 97, 110, 100, 108, 101]⟩, by decide, fun w => by
      go_enter Tryz.func14, Tryz.ntmps14
      go_wp2
      go_ret
      exact ⟨rfl, rfl⟩⟩
  have g5 : (e == 95) = false := by simp [h5]
  clear h5
  by_cases h6 : e = 96
  · subst h6
    exact ⟨⟨#[113, 117, 111, 116, 97]⟩, by decide, fun w => by
      go_enter Tryz.func14, Tryz.ntmps14
      go_wp2
      go_ret
      exact ⟨rfl, rfl⟩⟩
  have g6 : (e == 96) = false := by simp [h6]
  clear h6
  by_cases h7 : e = 97
  · subst h7
    exact ⟨⟨#[102, 105, 108, 101, 115]⟩, by decide, fun w => by
      go_enter Tryz.func14, Tryz.ntmps14
      go_wp2
      go_ret
      exact ⟨rfl, rfl⟩⟩
  have g7 : (e == 97) = false := by simp [h7]
  clear h7
  by_cases h8 : e = 98
  · subst h8
    exact ⟨⟨#[111, 112, 101, 110]⟩, by decide, fun w => by
      go_enter Tryz.func14, Tryz.ntmps14
      go_wp2
      go_ret
      exact ⟨rfl, rfl⟩⟩
  have g8 : (e == 98) = false := by simp [h8]
  clear h8
  by_cases h9 : e = 99
  · subst h9
    exact ⟨⟨#[114, 97, 110, 103, 101]⟩, by decide, fun w => by
      go_enter Tryz.func14, Tryz.ntmps14
      go_wp2
      go_ret
      exact ⟨rfl, rfl⟩⟩
  have g9 : (e == 99) = false := by simp [h9]
  clear h9
  by_cases h10 : e = 111
  · subst h10
    exact ⟨⟨#[111, 112]⟩, by decide, fun w => by
      go_enter Tryz.func14, Tryz.ntmps14
      go_wp2
      go_ret
      exact ⟨rfl, rfl⟩⟩
  have g10 : (e == 111) = false := by simp [h10]
  clear h10
  by_cases h11 : e = 112
  · subst h11
    exact ⟨⟨#[99, 111, 100, 101]⟩, by decide, fun w => by
      go_enter Tryz.func14, Tryz.ntmps14
      go_wp2
      go_ret
      exact ⟨rfl, rfl⟩⟩
  have g11 : (e == 112) = false := by simp [h11]
  clear h11
  by_cases h12 : e = 121
  · subst h12
    exact ⟨⟨#[112, 114, 111, 103]⟩, by decide, fun w => by
      go_enter Tryz.func14, Tryz.ntmps14
      go_wp2
      go_ret
      exact ⟨rfl, rfl⟩⟩
  have g12 : (e == 121) = false := by simp [h12]
  clear h12
  by_cases h13 : e = 131
  · subst h13
    exact ⟨⟨#[106, 117, 109, 112]⟩, by decide, fun w => by
      go_enter Tryz.func14, Tryz.ntmps14
      go_wp2
      go_ret
      exact ⟨rfl, rfl⟩⟩
  have g13 : (e == 131) = false := by simp [h13]
  clear h13
  by_cases h14 : e = 132
  · subst h14
    exact ⟨⟨#[108, 111, 99, 97, 108]⟩, by decide, fun w => by
      go_enter Tryz.func14, Tryz.ntmps14
      go_wp2
      go_ret
      exact ⟨rfl, rfl⟩⟩
  have g14 : (e == 132) = false := by simp [h14]
  clear h14
  by_cases h15 : e = 133
  · subst h15
    exact ⟨⟨#[99, 97, 108, 108]⟩, by decide, fun w => by
      go_enter Tryz.func14, Tryz.ntmps14
      go_wp2
      go_ret
      exact ⟨rfl, rfl⟩⟩
  have g15 : (e == 133) = false := by simp [h15]
  clear h15
  by_cases h16 : e = 134
  · subst h16
    exact ⟨⟨#[117, 110, 100, 101, 114]⟩, by decide, fun w => by
      go_enter Tryz.func14, Tryz.ntmps14
      go_wp2
      go_ret
      exact ⟨rfl, rfl⟩⟩
  have g16 : (e == 134) = false := by simp [h16]
  clear h16
  by_cases h17 : e = 135
  · subst h17
    exact ⟨⟨#[111, 118, 101, 114]⟩, by decide, fun w => by
      go_enter Tryz.func14, Tryz.ntmps14
      go_wp2
      go_ret
      exact ⟨rfl, rfl⟩⟩
  have g17 : (e == 135) = false := by simp [h17]
  clear h17
  by_cases h18 : e = 136
  · subst h18
    exact ⟨⟨#[106, 111, 105, 110]⟩, by decide, fun w => by
      go_enter Tryz.func14, Tryz.ntmps14
      go_wp2
      go_ret
      exact ⟨rfl, rfl⟩⟩
  have g18 : (e == 136) = false := by simp [h18]
  clear h18
  by_cases h19 : e = 137
  · subst h19
    exact ⟨⟨#[101, 110, 100]⟩, by decide, fun w => by
      go_enter Tryz.func14, Tryz.ntmps14
      go_wp2
      go_ret
      exact ⟨rfl, rfl⟩⟩
  have g19 : (e == 137) = false := by simp [h19]
  clear h19
  by_cases h20 : e = 138
  · subst h20
    exact ⟨⟨#[114, 101, 116]⟩, by decide, fun w => by
      go_enter Tryz.func14, Tryz.ntmps14
      go_wp2
      go_ret
      exact ⟨rfl, rfl⟩⟩
  have g20 : (e == 138) = false := by simp [h20]
  clear h20
  by_cases h21 : e = 139
  · subst h21
    exact ⟨⟨#[102, 105, 114, 115, 116]⟩, by decide, fun w => by
      go_enter Tryz.func14, Tryz.ntmps14
      go_wp2
      go_ret
      exact ⟨rfl, rfl⟩⟩
  have g21 : (e == 139) = false := by simp [h21]
  clear h21
  exact ⟨⟨#[101, 114, 114, 111, 114]⟩, by decide, fun w => by
    go_enter Tryz.func14, Tryz.ntmps14
    go_wp2
    go_ret
    exact ⟨rfl, rfl⟩⟩
set_option maxHeartbeats 16000000 in
theorem words15 (e : Int) : ∃ s : ByteArray, s.size ≤ 20 ∧ ∀ w, Calls Tryz.prog 15 #[.int .i64 e] w fun x w' => x = .returned (.string s) ∧ w' = w := by
  by_cases h0 : e = 141
  · subst h0
    exact ⟨⟨#[108, 105, 110, 101]⟩, by decide, fun w => by
      go_enter Tryz.func15, Tryz.ntmps15
      go_wp2
      go_ret
      exact ⟨rfl, rfl⟩⟩
  have g0 : (e == 141) = false := by simp [h0]
  clear h0
  by_cases h1 : e = 142
  · subst h1
    exact ⟨⟨#[108, 97, 98, 101, 108]⟩, by decide, fun w => by
      go_enter Tryz.func15, Tryz.ntmps15
      go_wp2
      go_ret
      exact ⟨rfl, rfl⟩⟩
  have g1 : (e == 142) = false := by simp [h1]
  clear h1
  by_cases h2 : e = 143
  · subst h2
    exact ⟨⟨#[110, 117, 109, 98, 101, 114]⟩, by decide, fun w => by
      go_enter Tryz.func15, Tryz.ntmps15
      go_wp2
      go_ret
      exact ⟨rfl, rfl⟩⟩
  have g2 : (e == 143) = false := by simp [h2]
  clear h2
  by_cases h3 : e = 151
  · subst h3
    exact ⟨⟨#[115, 116, 97, 116, 101]⟩, by decide, fun w => by
      go_enter Tryz.func15, Tryz.ntmps15
      go_wp2
      go_ret
      exact ⟨rfl, rfl⟩⟩
  have g3 : (e == 151) = false := by simp [h3]
  clear h3
  by_cases h4 : e = 152
  · subst h4
    exact ⟨⟨#[118, 101, 114, 105, 102, 121]⟩, by decide, fun w => by
      go_enter Tryz.func15, Tryz.ntmps15
      go_wp2
      go_ret
      exact ⟨rfl, rfl⟩⟩
  have g4 : (e == 152) = false := by simp [h4]
  clear h4
  by_cases h5 : e = 171
  · subst h5
    exact ⟨⟨#[115, 121, 110, 116, 97, 120]⟩, by decide, fun w => by
      go_enter Tryz.func15, Tryz.ntmps15
      go_wp2
      go_ret
      exact ⟨rfl, rfl⟩⟩
  have g5 : (e == 171) = false := by simp [h5]
  clear h5
  by_cases h6 : e = 172
  · subst h6
    exact ⟨⟨#[116, 119, 105, 99, 101]⟩, by decide, fun w => by
      go_enter Tryz.func15, Tryz.ntmps15
      go_wp2
      go_ret
      exact ⟨rfl, rfl⟩⟩
  have g6 : (e == 172) = false := by simp [h6]
  clear h6
  by_cases h7 : e = 173
  · subst h7
    exact ⟨⟨#[117, 110, 115, 101, 116]⟩, by decide, fun w => by
      go_enter Tryz.func15, Tryz.ntmps15
      go_wp2
      go_ret
      exact ⟨rfl, rfl⟩⟩
  have g7 : (e == 173) = false := by simp [h7]
  clear h7
  by_cases h8 : e = 174
  · subst h8
    exact ⟨⟨#[97, 114, 105, 116, 121]⟩, by decide, fun w => by
      go_enter Tryz.func15, Tryz.ntmps15
      go_wp2
      go_ret
      exact ⟨rfl, rfl⟩⟩
  have g8 : (e == 174) = false := by simp [h8]
  clear h8
  by_cases h9 : e = 175
  · subst h9
    exact ⟨⟨#[110, 101, 115, 116]⟩, by decide, fun w => by
      go_enter Tryz.func15, Tryz.ntmps15
      go_wp2
      go_ret
      exact ⟨rfl, rfl⟩⟩
  have g9 : (e == 175) = false := by simp [h9]
  clear h9
  by_cases h10 : e = 181
  · subst h10
    exact ⟨⟨#[98, 105, 103]⟩, by decide, fun w => by
      go_enter Tryz.func15, Tryz.ntmps15
      go_wp2
      go_ret
      exact ⟨rfl, rfl⟩⟩
  have g10 : (e == 181) = false := by simp [h10]
  clear h10
  by_cases h11 : e = 191
  · subst h11
    exact ⟨⟨#[97, 99, 116, 105, 111, 110]⟩, by decide, fun w => by
      go_enter Tryz.func15, Tryz.ntmps15
      go_wp2
      go_ret
      exact ⟨rfl, rfl⟩⟩
  have g11 : (e == 191) = false := by simp [h11]
  clear h11
  by_cases h12 : e = 192
  · subst h12
    exact ⟨⟨#[108, 105, 109, 105, 116, 115]⟩, by decide, fun w => by
      go_enter Tryz.func15, Tryz.ntmps15
      go_wp2
      go_ret
      exact ⟨rfl, rfl⟩⟩
  have g12 : (e == 192) = false := by simp [h12]
  clear h12
  by_cases h13 : e = 193
  · subst h13
    exact ⟨⟨#[114, 101, 115, 117, 108, 116]⟩, by decide, fun w => by
      go_enter Tryz.func15, Tryz.ntmps15
      go_wp2
      go_ret
      exact ⟨rfl, rfl⟩⟩
  have g13 : (e == 193) = false := by simp [h13]
  clear h13
  by_cases h14 : e = 201
  · subst h14
    exact ⟨⟨#[113, 117, 101, 117, 101]⟩, by decide, fun w => by
      go_enter Tryz.func15, Tryz.ntmps15
      go_wp2
      go_ret
      exact ⟨rfl, rfl⟩⟩
  have g14 : (e == 201) = false := by simp [h14]
  clear h14
  by_cases h15 : e = 211
  · subst h15
    exact ⟨⟨#[119, 111, 114, 100]⟩, by decide, fun w => by
      go_enter Tryz.func15, Tryz.ntmps15
      go_wp2
      go_ret
      exact ⟨rfl, rfl⟩⟩
  have g15 : (e == 211) = false := by simp [h15]
  clear h15
  exact ⟨⟨#[101, 114, 114, 111, 114]⟩, by decide, fun w => by
    go_enter Tryz.func15, Tryz.ntmps15
    go_wp2
    go_ret
    exact ⟨rfl, rfl⟩⟩
set_option maxHeartbeats 8000000 in
theorem word_ex (e : Int) : ∃ s : ByteArray, s.size ≤ 20 ∧ (e = 0 → s = ⟨#[111, 107]⟩) ∧ ∀ w, Calls Tryz.prog 6 #[.int .i64 e] w fun x w' => x = .returned (.string s) ∧ w' = w := by
  by_cases h0 : e = 0
  · subst h0
    exact ⟨⟨#[111, 107]⟩, by decide, fun _ => rfl, fun w => by
      go_enter Tryz.func6, Tryz.ntmps6
      go_wp2
      go_ret
      exact ⟨rfl, rfl⟩⟩
  have g0 : (e == 0) = false := by simp [h0]
  by_cases h1 : e < 81
  · obtain ⟨s, hs, hc⟩ := words13 e
    exact ⟨s, hs, fun h => absurd h h0, fun w => by
      have HC := hid_of (hc w)
      clear hc
      go_enter Tryz.func6, Tryz.ntmps6
      go_wp2_with fail
      refine HC.out.mono ?_
      rintro x w1 ⟨rfl, hw⟩
      have hw := hw.symm
      subst hw
      go_wp2
      go_ret
      exact ⟨rfl, rfl⟩⟩
  by_cases h2 : e < 141
  · obtain ⟨s, hs, hc⟩ := words14 e
    exact ⟨s, hs, fun h => absurd h h0, fun w => by
      have HC := hid_of (hc w)
      clear hc
      go_enter Tryz.func6, Tryz.ntmps6
      go_wp2_with fail
      refine HC.out.mono ?_
      rintro x w1 ⟨rfl, hw⟩
      have hw := hw.symm
      subst hw
      go_wp2
      go_ret
      exact ⟨rfl, rfl⟩⟩
  · obtain ⟨s, hs, hc⟩ := words15 e
    exact ⟨s, hs, fun h => absurd h h0, fun w => by
      have HC := hid_of (hc w)
      clear hc
      go_enter Tryz.func6, Tryz.ntmps6
      go_wp2_with fail
      refine HC.out.mono ?_
      rintro x w1 ⟨rfl, hw⟩
      have hw := hw.symm
      subst hw
      go_wp2
      go_ret
      exact ⟨rfl, rfl⟩⟩
theorem word_fun : ∃ f : Int → ByteArray, (∀ e, (f e).size ≤ 20) ∧ f 0 = ⟨#[111, 107]⟩ ∧ ∀ e w, Calls Tryz.prog 6 #[.int .i64 e] w fun x w' => x = .returned (.string (f e)) ∧ w' = w := by
  refine ⟨fun e => Classical.choose (word_ex e), fun e => (Classical.choose_spec (word_ex e)).1, (Classical.choose_spec (word_ex 0)).2.1 rfl, fun e w => (Classical.choose_spec (word_ex e)).2.2 w⟩
end Go.Proofs.YtkilngknklpadaaGreatDoor
