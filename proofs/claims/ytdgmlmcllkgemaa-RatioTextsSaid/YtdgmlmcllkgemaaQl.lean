/- Read, the program's and the document's own: the same answers. -/
import Derived.Test.YtdgmlmcllkgemaaQk
import Derived.Test.YtdgmlmcllkgemaaRead
namespace Go.Proofs.Ytdgmlmcllkgemaa
open Go.RowKit
set_option linter.unusedVariables false

set_option maxHeartbeats 1000000 in
theorem pread_a (a b : List UInt8) (w : World) (h47 : (47 : UInt8) ∉ a) (hl : (a ++ 47 :: b).length ≤ 9223372036854775807) (ta : textB a = false) :
    AnsF Try.prog 30 #[str (a ++ 47 :: b)] w 0 0 4 := by
  have hla : a.length ≤ 9223372036854775807 := by rw [List.length_append, List.length_cons] at hl; omega
  have hlb : b.length ≤ 9223372036854775807 := by rw [List.length_append, List.length_cons] at hl; omega
  have HCut := Lib.hid (fun w0 => lcut_yes a b w0 h47 hl)
  have HIa := Lib.hid (fun w0 => isText_any a w0 hla)
  have HIb := Lib.hid (fun w0 => isText_any b w0 hlb)
  rw [ta] at HIa
  clear h47 hl hla hlb
  have HO1 : Hid (On w (w.alloc (.cells #[.slice none 0 0, .slice none 0 0] 41))) := (On.refl w).alloc _
  unfold str at *
  generalize (⟨(a ++ 47 :: b).toArray⟩ : ByteArray) = s at *
  generalize (⟨a.toArray⟩ : ByteArray) = sa at *
  generalize (⟨b.toArray⟩ : ByteArray) = sb at *
  go_enter Try.func30, Try.ntmps30
  go_wp2_with fail
  refine (HCut.out _).mono ?_
  rintro e w1 ⟨rfl, n, hn⟩
  have HW1 : Hid (On (w.alloc (.cells #[.slice none 0 0, .slice none 0 0] 41)) w1) := (hn ▸ (On.refl _).drewN n : On _ w1)
  clear hn
  go_wp2_with fail
  refine (HIa.out w1).mono ?_
  rintro e w' ⟨rfl, rfl⟩
  obtain ⟨k1, k2, k3, k4, k5, k6, k7⟩ := res_facts HW1.out (.slice none 0 0) (.slice none 0 0)
  go_wp2
  (try simp only [Exit.inBlock, Exit.then])
  refine bodyPost_ret (by simp [results, Try.results30, go_sem, k6, k7]; try rfl) rfl ?_
  exact ⟨⟨_, rfl, (res_end HW1.out (Nv.nil _) (Nv.nil _)).1⟩, (res_end HW1.out (Nv.nil _) (Nv.nil _)).2⟩
set_option maxHeartbeats 1000000 in
theorem pread_b (a b : List UInt8) (w : World) (h47 : (47 : UInt8) ∉ a) (hl : (a ++ 47 :: b).length ≤ 9223372036854775807) (ta : textB a = true) (tb : textB b = false) :
    AnsF Try.prog 30 #[str (a ++ 47 :: b)] w 0 0 4 := by
  have hla : a.length ≤ 9223372036854775807 := by rw [List.length_append, List.length_cons] at hl; omega
  have hlb : b.length ≤ 9223372036854775807 := by rw [List.length_append, List.length_cons] at hl; omega
  have HCut := Lib.hid (fun w0 => lcut_yes a b w0 h47 hl)
  have HIa := Lib.hid (fun w0 => isText_any a w0 hla)
  have HIb := Lib.hid (fun w0 => isText_any b w0 hlb)
  rw [ta] at HIa
  rw [tb] at HIb
  clear h47 hl hla hlb
  have HO1 : Hid (On w (w.alloc (.cells #[.slice none 0 0, .slice none 0 0] 41))) := (On.refl w).alloc _
  unfold str at *
  generalize (⟨(a ++ 47 :: b).toArray⟩ : ByteArray) = s at *
  generalize (⟨a.toArray⟩ : ByteArray) = sa at *
  generalize (⟨b.toArray⟩ : ByteArray) = sb at *
  go_enter Try.func30, Try.ntmps30
  go_wp2_with fail
  refine (HCut.out _).mono ?_
  rintro e w1 ⟨rfl, n, hn⟩
  have HW1 : Hid (On (w.alloc (.cells #[.slice none 0 0, .slice none 0 0] 41)) w1) := (hn ▸ (On.refl _).drewN n : On _ w1)
  clear hn
  go_wp2_with fail
  refine (HIa.out w1).mono ?_
  rintro e w' ⟨rfl, rfl⟩
  go_wp2_with fail
  refine (HIb.out w1).mono ?_
  rintro e w' ⟨rfl, rfl⟩
  obtain ⟨k1, k2, k3, k4, k5, k6, k7⟩ := res_facts HW1.out (.slice none 0 0) (.slice none 0 0)
  go_wp2
  (try simp only [Exit.inBlock, Exit.then])
  refine bodyPost_ret (by simp [results, Try.results30, go_sem, k6, k7]; try rfl) rfl ?_
  exact ⟨⟨_, rfl, (res_end HW1.out (Nv.nil _) (Nv.nil _)).1⟩, (res_end HW1.out (Nv.nil _) (Nv.nil _)).2⟩
set_option maxHeartbeats 1000000 in
theorem pread_e1 (a b : List UInt8) (w : World) (h47 : (47 : UInt8) ∉ a) (hl : (a ++ 47 :: b).length ≤ 9223372036854775807) (N : Nat) (ta : textB a = true) (tb : textB b = true) (hpa : ∀ w0, AnsN Try.prog 28 #[str a] w0 N 3) :
    AnsF Try.prog 30 #[str (a ++ 47 :: b)] w 0 0 3 := by
  have hla : a.length ≤ 9223372036854775807 := by rw [List.length_append, List.length_cons] at hl; omega
  have hlb : b.length ≤ 9223372036854775807 := by rw [List.length_append, List.length_cons] at hl; omega
  have HCut := Lib.hid (fun w0 => lcut_yes a b w0 h47 hl)
  have HIa := Lib.hid (fun w0 => isText_any a w0 hla)
  have HIb := Lib.hid (fun w0 => isText_any b w0 hlb)
  rw [ta] at HIa
  rw [tb] at HIb
  clear h47 hl hla hlb
  have HO1 : Hid (On w (w.alloc (.cells #[.slice none 0 0, .slice none 0 0] 41))) := (On.refl w).alloc _
  unfold str at *
  generalize (⟨(a ++ 47 :: b).toArray⟩ : ByteArray) = s at *
  generalize (⟨a.toArray⟩ : ByteArray) = sa at *
  generalize (⟨b.toArray⟩ : ByteArray) = sb at *
  have HPa := Lib.hid hpa
  clear hpa
  go_enter Try.func30, Try.ntmps30
  go_wp2_with fail
  refine (HCut.out _).mono ?_
  rintro e w1 ⟨rfl, n, hn⟩
  have HW1 : Hid (On (w.alloc (.cells #[.slice none 0 0, .slice none 0 0] 41)) w1) := (hn ▸ (On.refl _).drewN n : On _ w1)
  clear hn
  go_wp2_with fail
  refine (HIa.out w1).mono ?_
  rintro e w' ⟨rfl, rfl⟩
  go_wp2_with fail
  refine (HIb.out w1).mono ?_
  rintro e w' ⟨rfl, rfl⟩
  go_wp2_with fail
  refine (HPa.out w1).mono ?_
  rintro e w2 ⟨⟨va, rfl, hva⟩, hO⟩
  have HVA := Lib.hid hva; have HO2 := Lib.hid (HW1.out.trans hO)
  clear hva hO
  obtain ⟨k1, k2, k3, k4, k5, k6, k7⟩ := res_facts HO2.out (.slice none 0 0) (.slice none 0 0)
  go_wp2
  (try simp only [Exit.inBlock, Exit.then])
  refine bodyPost_ret (by simp [results, Try.results30, go_sem, k6, k7]; try rfl) rfl ?_
  exact ⟨⟨_, rfl, (res_end HO2.out (Nv.nil _) (Nv.nil _)).1⟩, (res_end HO2.out (Nv.nil _) (Nv.nil _)).2⟩
set_option maxHeartbeats 1000000 in
theorem pread_e2 (a b : List UInt8) (w : World) (h47 : (47 : UInt8) ∉ a) (hl : (a ++ 47 :: b).length ≤ 9223372036854775807) (A N : Nat) (ta : textB a = true) (tb : textB b = true) (hpa : ∀ w0, AnsN Try.prog 28 #[str a] w0 A 0) (hpb : ∀ w0, AnsN Try.prog 28 #[str b] w0 N 3) :
    AnsF Try.prog 30 #[str (a ++ 47 :: b)] w 0 0 3 := by
  have hla : a.length ≤ 9223372036854775807 := by rw [List.length_append, List.length_cons] at hl; omega
  have hlb : b.length ≤ 9223372036854775807 := by rw [List.length_append, List.length_cons] at hl; omega
  have HCut := Lib.hid (fun w0 => lcut_yes a b w0 h47 hl)
  have HIa := Lib.hid (fun w0 => isText_any a w0 hla)
  have HIb := Lib.hid (fun w0 => isText_any b w0 hlb)
  rw [ta] at HIa
  rw [tb] at HIb
  clear h47 hl hla hlb
  have HO1 : Hid (On w (w.alloc (.cells #[.slice none 0 0, .slice none 0 0] 41))) := (On.refl w).alloc _
  unfold str at *
  generalize (⟨(a ++ 47 :: b).toArray⟩ : ByteArray) = s at *
  generalize (⟨a.toArray⟩ : ByteArray) = sa at *
  generalize (⟨b.toArray⟩ : ByteArray) = sb at *
  have HPa := Lib.hid hpa
  clear hpa
  have HPb := Lib.hid hpb
  clear hpb
  go_enter Try.func30, Try.ntmps30
  go_wp2_with fail
  refine (HCut.out _).mono ?_
  rintro e w1 ⟨rfl, n, hn⟩
  have HW1 : Hid (On (w.alloc (.cells #[.slice none 0 0, .slice none 0 0] 41)) w1) := (hn ▸ (On.refl _).drewN n : On _ w1)
  clear hn
  go_wp2_with fail
  refine (HIa.out w1).mono ?_
  rintro e w' ⟨rfl, rfl⟩
  go_wp2_with fail
  refine (HIb.out w1).mono ?_
  rintro e w' ⟨rfl, rfl⟩
  go_wp2_with fail
  refine (HPa.out w1).mono ?_
  rintro e w2 ⟨⟨va, rfl, hva⟩, hO⟩
  have HVA := Lib.hid hva; have HO2 := Lib.hid (HW1.out.trans hO)
  clear hva hO
  go_wp2_with fail
  refine (HPb.out w2).mono ?_
  rintro e w3 ⟨⟨vb, rfl, hvb⟩, hO⟩
  have HVB := Lib.hid hvb; have HVA3 := Lib.hid (HVA.out.on hO); have HO3 := Lib.hid (HO2.out.trans hO)
  clear hvb hO
  obtain ⟨k1, k2, k3, k4, k5, k6, k7⟩ := res_facts HO3.out (.slice none 0 0) (.slice none 0 0)
  go_wp2
  (try simp only [Exit.inBlock, Exit.then])
  refine bodyPost_ret (by simp [results, Try.results30, go_sem, k6, k7]; try rfl) rfl ?_
  exact ⟨⟨_, rfl, (res_end HO3.out (Nv.nil _) (Nv.nil _)).1⟩, (res_end HO3.out (Nv.nil _) (Nv.nil _)).2⟩
set_option maxHeartbeats 1000000 in
theorem pread_ok (a b : List UInt8) (w : World) (h47 : (47 : UInt8) ∉ a) (hl : (a ++ 47 :: b).length ≤ 9223372036854775807) (A B p q : Nat) (c : Int) (ta : textB a = true) (tb : textB b = true) (hpa : ∀ w0, AnsN Try.prog 28 #[str a] w0 A 0) (hpb : ∀ w0, AnsN Try.prog 28 #[str b] w0 B 0) (hnew : ∀ va vb w0, Nv w0 va A → Nv w0 vb B → AnsF Try.prog 41 #[va, vb] w0 p q c) :
    AnsF Try.prog 30 #[str (a ++ 47 :: b)] w p q c := by
  have hla : a.length ≤ 9223372036854775807 := by rw [List.length_append, List.length_cons] at hl; omega
  have hlb : b.length ≤ 9223372036854775807 := by rw [List.length_append, List.length_cons] at hl; omega
  have HCut := Lib.hid (fun w0 => lcut_yes a b w0 h47 hl)
  have HIa := Lib.hid (fun w0 => isText_any a w0 hla)
  have HIb := Lib.hid (fun w0 => isText_any b w0 hlb)
  rw [ta] at HIa
  rw [tb] at HIb
  clear h47 hl hla hlb
  have HO1 : Hid (On w (w.alloc (.cells #[.slice none 0 0, .slice none 0 0] 41))) := (On.refl w).alloc _
  unfold str at *
  generalize (⟨(a ++ 47 :: b).toArray⟩ : ByteArray) = s at *
  generalize (⟨a.toArray⟩ : ByteArray) = sa at *
  generalize (⟨b.toArray⟩ : ByteArray) = sb at *
  have HPa := Lib.hid hpa
  clear hpa
  have HPb := Lib.hid hpb
  clear hpb
  have HNew := Lib.hid hnew
  clear hnew
  go_enter Try.func30, Try.ntmps30
  go_wp2_with fail
  refine (HCut.out _).mono ?_
  rintro e w1 ⟨rfl, n, hn⟩
  have HW1 : Hid (On (w.alloc (.cells #[.slice none 0 0, .slice none 0 0] 41)) w1) := (hn ▸ (On.refl _).drewN n : On _ w1)
  clear hn
  go_wp2_with fail
  refine (HIa.out w1).mono ?_
  rintro e w' ⟨rfl, rfl⟩
  go_wp2_with fail
  refine (HIb.out w1).mono ?_
  rintro e w' ⟨rfl, rfl⟩
  go_wp2_with fail
  refine (HPa.out w1).mono ?_
  rintro e w2 ⟨⟨va, rfl, hva⟩, hO⟩
  have HVA := Lib.hid hva; have HO2 := Lib.hid (HW1.out.trans hO)
  clear hva hO
  go_wp2_with fail
  refine (HPb.out w2).mono ?_
  rintro e w3 ⟨⟨vb, rfl, hvb⟩, hO⟩
  have HVB := Lib.hid hvb; have HVA3 := Lib.hid (HVA.out.on hO); have HO3 := Lib.hid (HO2.out.trans hO)
  clear hvb hO
  go_wp2_with fail
  refine (HNew.out va vb w3 HVA3.out HVB.out).mono ?_
  rintro e w5 ⟨⟨v, rfl, ⟨vp, vz, rfl, hp, hz⟩⟩, hOn⟩
  have HP := Lib.hid hp; have HZ := Lib.hid hz; have HO5 := Lib.hid (HO3.out.trans hOn)
  obtain ⟨op, cp, rfl, -, -, -⟩ := hp
  obtain ⟨oz, cz, rfl, -, -, -⟩ := hz
  clear hOn
  obtain ⟨k1, k2, k3, k4, k5, k6, k7⟩ := res_facts HO5.out (.slice op (nl p) cp) (.slice oz (nl q) cz)
  go_wp2
  (try simp only [Exit.inBlock, Exit.then])
  refine bodyPost_ret (by simp [results, Try.results30, go_sem, k6, k7]; try rfl) rfl ?_
  exact ⟨⟨_, rfl, (res_end HO5.out HP.out HZ.out).1⟩, (res_end HO5.out HP.out HZ.out).2⟩
theorem pread_not (l : List UInt8) (w : World) (h47 : (47 : UInt8) ∉ l) (hl : l.length ≤ 9223372036854775807) (ht : textB l = true) : AnsF Try.prog 30 #[str l] w 0 0 4 := by
  have HCut := Lib.hid (fun w0 => lcut_no l w0 h47)
  have HIa := Lib.hid (fun w0 => isText_any l w0 hl)
  have HIb := Lib.hid (fun w0 => isText_any [] w0 (by simp))
  rw [ht] at HIa
  rw [show textB [] = false by decide] at HIb
  clear h47 hl ht
  have HO1 : Hid (On w (w.alloc (.cells #[.slice none 0 0, .slice none 0 0] 41))) := (On.refl w).alloc _
  have HW1 : Hid (On (w.alloc (.cells #[.slice none 0 0, .slice none 0 0] 41)) (w.alloc (.cells #[.slice none 0 0, .slice none 0 0] 41))) := On.refl _
  unfold str at *
  generalize (⟨l.toArray⟩ : ByteArray) = s at *
  go_enter Try.func30, Try.ntmps30
  go_wp2_with fail
  refine (HCut.out _).mono ?_
  rintro e w1 ⟨rfl, rfl⟩
  go_wp2_with fail
  refine (HIa.out _).mono ?_
  rintro e w' ⟨rfl, rfl⟩
  go_wp2_with fail
  refine (HIb.out _).mono ?_
  rintro e w' ⟨rfl, rfl⟩
  go_wp2
  first | go_ret | go_returns | go_ret2
  exact ⟨⟨_, rfl, Fv.zero _⟩, (On.refl w).alloc _⟩
theorem pread_nof (l : List UInt8) (w : World) (h47 : (47 : UInt8) ∉ l) (hl : l.length ≤ 9223372036854775807) (ht : textB l = false) : AnsF Try.prog 30 #[str l] w 0 0 4 := by
  have HCut := Lib.hid (fun w0 => lcut_no l w0 h47)
  have HIa := Lib.hid (fun w0 => isText_any l w0 hl)
  have HIb := Lib.hid (fun w0 => isText_any [] w0 (by simp))
  rw [ht] at HIa
  rw [show textB [] = false by decide] at HIb
  clear h47 hl ht
  have HO1 : Hid (On w (w.alloc (.cells #[.slice none 0 0, .slice none 0 0] 41))) := (On.refl w).alloc _
  have HW1 : Hid (On (w.alloc (.cells #[.slice none 0 0, .slice none 0 0] 41)) (w.alloc (.cells #[.slice none 0 0, .slice none 0 0] 41))) := On.refl _
  unfold str at *
  generalize (⟨l.toArray⟩ : ByteArray) = s at *
  go_enter Try.func30, Try.ntmps30
  go_wp2_with fail
  refine (HCut.out _).mono ?_
  rintro e w1 ⟨rfl, rfl⟩
  go_wp2_with fail
  refine (HIa.out _).mono ?_
  rintro e w' ⟨rfl, rfl⟩
  go_wp2
  first | go_ret | go_returns | go_ret2
  exact ⟨⟨_, rfl, Fv.zero _⟩, (On.refl w).alloc _⟩
end Go.Proofs.Ytdgmlmcllkgemaa
