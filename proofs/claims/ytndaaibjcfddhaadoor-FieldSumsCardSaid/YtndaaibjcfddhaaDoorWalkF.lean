/- The primes of package field: what the call returns, in new memory. -/
import Derived.Test.YtndaaibjcfddhaaDoorWalkE
namespace Go.Proofs.YtndaaibjcfddhaaDoor
open Go.RowKit
set_option linter.unusedVariables false

theorem info_u64 : (Tryd.prog.info? 22).map (fun i => (i.zero, i.size, i.bytes)) = some (some (.int .u64 0), 1, 8) := by kernel_rfl
def nums (l : List Nat) : List Value := l.map fun (x : Nat) => Value.int .u64 ((x : Nat) : Int)
/-- The slice value v is new memory since B and holds the list l. -/
def Owns (B : Nat) (w : World) (v : Value) (l : List Nat) : Prop := w.ownsRow B 22 1 v l.length (nums l)
theorem owns_nil (B : Nat) (w : World) : Owns B w (.slice none 0 0) [] := World.ownsRow_nil _ _ _ _
theorem Owns.snoc {B : Nat} {w : World} {v : Value} {l : List Nat} {x : Nat} (h : w.ownsRow B 22 1 v (l.length + 1) (nums l ++ [.int .u64 (x : Int)])) : Owns B w v (l ++ [x]) := by
  unfold Owns nums; rw [List.length_append, List.map_append]; exact h
theorem Owns.below {B : Nat} {w wr w1 : World} {v : Value} {l : List Nat} {o : Obj} (hB : Below B w wr) (h : Owns B wr v l) (hz : B ≤ wr.heap.size) (hg : (wr.alloc o).grownBy w1 v.ownBlock) : Below B w w1 :=
  (hB.alloc hz o).grown hg (by simp; omega) (fun j hj => (World.ownsRow.lt h j hj).1)
theorem oneCell_num (x : Nat) : ∀ u ∈ [Value.int .u64 (x : Int)], u.oneCell' = true := by simp [Value.oneCell']
theorem new_cell (w : World) (x : Nat) (t : TypeId) : ∀ j u, [Value.int .u64 (x : Int)][j]? = some u → (w.alloc (.cells #[.int .u64 (x : Int)] t)).cell? ((⟨w.heap.size, 0, none⟩ : Addr).add j) = some u := by
  intro j u h
  cases j with
  | zero => simp at h; subst h; exact World.cell?_alloc_at _ _ w.heap.size 0 rfl
  | succ j => simp at h

set_option maxHeartbeats 400000 in
set_option maxRecDepth 100000 in
theorem primes_any (n : Nat) (R : List Nat) (w : World) (hn : 0 < n) (hle : n ≤ 998244353) (hR : primesRun 64 n 2 [] = some R) :
    Calls Tryd.prog 56 #[.int .u64 (n : Int)] w fun e w' => ∃ v, e = .returned v ∧ Owns w.heap.size w' v R ∧ Below w.heap.size w w' := by
  have HR := Lib.hid hR; clear hR
  obtain ⟨i0, hi, hz0, hz1, hz2⟩ := info_parts info_u64
  have HI := Lib.hid hi; have HZ0 := Lib.hid hz0; have HZ1 := Lib.hid hz1; have HZ2 := Lib.hid hz2
  clear hi hz0 hz1 hz2
  go_enter Tryd.func56, Tryd.ntmps56
  go_wp2
  go_loopw [0, 3, 4] (fun vn vl vq wr => ∃ (F N q : Nat) (l : List Nat), vn = .int .u64 (N : Int) ∧ vq = .int .u64 (q : Int) ∧ 0 < N ∧ N ≤ 998244353 ∧ q + F = 66 ∧ 2 ≤ q ∧ l.length + F ≤ 64 ∧ Hid (primesRun F N q l = some R) ∧ Owns w.heap.size wr vl l ∧ Below w.heap.size w wr) (fun _ _ vq _ => 66 - (intOf vq).toNat)
  case atStart => exact ⟨64, n, 2, [], rfl, rfl, hn, hle, rfl, by omega, by simp, HR, owns_nil _ _, Below.refl _ _⟩
  case round =>
    obtain ⟨F, N, q, l, rfl, rfl, hN, hNle, hqF, hq, hlF, HP, hown, hB⟩ := hrel
    by_cases h1 : 1 < N
    · obtain ⟨F', rfl, hP⟩ := primesRun_more HP.out h1
      by_cases h2 : N % q = 0
      · rw [if_pos h2] at hP
        have HP' := Lib.hid hP; clear hP
        have hd1 : (((N : Int) % (q : Int)) == 0) = true := by have : ((N : Int) % (q : Int)) = ((N % q : Nat) : Int) := rfl; rw [this, h2]; rfl
        have H2 := Lib.hid h2; clear h2
        go_wp2_with ((at_builtin; refine wpList_append_own _ rfl (.tmp 13) (.tmp 15) 37 rfl w.heap.size 22 i0 (.int .u64 0) 1 8 Tryd.underlying37 HI.out HZ0.out HZ1.out HZ2.out rfl (by decide) _ _ _ rfl (World.ownsRow.alloc hown _) ⟨wr.heap.size, 0, none⟩ 1 1 [.int .u64 (q : Int)] rfl rfl ?c1 ?c2 ?c3 ?c4 ?c5 ?_))
        case c1 => exact new_cell _ _ _
        case c2 => exact oneCell_num _
        case c3 => unfold maxLen; omega
        case c4 => omega
        case c5 => have := hB.size; simp; omega
        intro v1 w1 hown1 hgrow1 _
        have hB1 := Owns.below hB hown (by have := hB.size; omega) hgrow1
        have hO1 := Owns.snoc hown1
        clear hown hB hown1 hgrow1
        go_wp2
        go_loop [0] (fun vn => ∃ (fu M : Nat), vn = .int .u64 (M : Int) ∧ 0 < M ∧ M ≤ 998244353 ∧ M < 2 ^ fu ∧ Hid (divOut fu M q = divOut 64 N q)) (fun vn => (intOf vn).toNat)
        case atStart => exact ⟨64, N, rfl, hN, hNle, by omega, Lib.hid rfl⟩
        case round =>
          obtain ⟨fu, M, rfl, hM, hMle, hfu, HD⟩ := hrel
          by_cases h3 : M % q = 0
          · have hd2 : (((M : Int) % (q : Int)) == 0) = true := by have : ((M : Int) % (q : Int)) = ((M % q : Nat) : Int) := rfl; rw [this, h3]; rfl
            obtain ⟨hp1, hp2⟩ := div_pos_of_mod hM hq h3
            obtain ⟨fu', rfl⟩ : ∃ fu', fu = fu' + 1 := by cases fu with | zero => omega | succ fu' => exact ⟨fu', rfl⟩
            have hp3 := div_lt_pow hq hfu
            have HD' := Lib.hid ((divOut_step h3).symm.trans HD.out)
            have H3 := Lib.hid h3; clear h3
            go_wp2
            go_round
            case rel => exact ⟨fu', M / q, rfl, hp1, by omega, hp3, HD'⟩
            case measure =>
              show ((M : Int) / (q : Int)).toNat < (M : Int).toNat
              have : ((M : Int) / (q : Int)) = ((M / q : Nat) : Int) := rfl
              omega
          · have hd2 : (((M : Int) % (q : Int)) == 0) = false := by
              have : ((M : Int) % (q : Int)) = ((M % q : Nat) : Int) := rfl
              rw [this]; simp; omega
            have HD' := Lib.hid ((divOut_stop h3).symm.trans HD.out)
            have H3 := Lib.hid h3; clear h3
            go_wp2
            go_roundw
            case rel => exact ⟨F', M, q + 1, _, rfl, by go_num, hM, hMle, by omega, by omega, by simp; omega, by rw [HD'.out]; exact HP', hO1, hB1⟩
            case measure => simp [intOf]; omega
      · have HP' := Lib.hid hP; clear hP
        have hd1 : (((N : Int) % (q : Int)) == 0) = false := by
          have : ((N : Int) % (q : Int)) = ((N % q : Nat) : Int) := rfl
          rw [this]; simp; omega
        rw [if_neg h2] at HP'
        have H2 := Lib.hid h2; clear h2
        obtain ⟨wo, rfl⟩ : ∃ wo : World, wo = wr := ⟨_, rfl⟩
        go_wp2
        go_loop [0] (fun vn => ∃ (fu M : Nat), vn = .int .u64 (M : Int) ∧ 0 < M ∧ M ≤ 998244353 ∧ M < 2 ^ fu ∧ Hid (divOut fu M q = divOut 64 N q)) (fun vn => (intOf vn).toNat)
        case atStart => exact ⟨64, N, rfl, hN, hNle, by omega, Lib.hid rfl⟩
        case round =>
          obtain ⟨fu, M, rfl, hM, hMle, hfu, HD⟩ := hrel
          by_cases h3 : M % q = 0
          · have hd2 : (((M : Int) % (q : Int)) == 0) = true := by have : ((M : Int) % (q : Int)) = ((M % q : Nat) : Int) := rfl; rw [this, h3]; rfl
            obtain ⟨hp1, hp2⟩ := div_pos_of_mod hM hq h3
            obtain ⟨fu', rfl⟩ : ∃ fu', fu = fu' + 1 := by cases fu with | zero => omega | succ fu' => exact ⟨fu', rfl⟩
            have hp3 := div_lt_pow hq hfu
            have HD' := Lib.hid ((divOut_step h3).symm.trans HD.out)
            have H3 := Lib.hid h3; clear h3
            go_wp2
            go_round
            case rel => exact ⟨fu', M / q, rfl, hp1, by omega, hp3, HD'⟩
            case measure =>
              show ((M : Int) / (q : Int)).toNat < (M : Int).toNat
              have : ((M : Int) / (q : Int)) = ((M / q : Nat) : Int) := rfl
              omega
          · have hd2 : (((M : Int) % (q : Int)) == 0) = false := by
              have : ((M : Int) % (q : Int)) = ((M % q : Nat) : Int) := rfl
              rw [this]; simp; omega
            have HD' := Lib.hid ((divOut_stop h3).symm.trans HD.out)
            have H3 := Lib.hid h3; clear h3
            go_wp2
            go_roundw
            case rel => exact ⟨F', M, q + 1, _, rfl, by go_num, hM, hMle, by omega, by omega, by omega, by rw [HD'.out]; exact HP', hown, hB⟩
            case measure => simp [intOf]; omega
    · have HL := Lib.hid (primesRun_done HP.out h1)
      go_wp2
      go_ret
      exact ⟨_, rfl, by rw [← HL.out]; exact hown, hB⟩
end Go.Proofs.YtndaaibjcfddhaaDoor
