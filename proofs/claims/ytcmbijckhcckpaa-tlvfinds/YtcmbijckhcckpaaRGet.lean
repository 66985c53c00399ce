/- The document's Get. -/
import Derived.Test.YtcmbijckhcckpaaRNum
namespace Go.Proofs.Ytcmbijckhcckpaa
open Go.RowKit

theorem size_ne {a b : Nat} (h : a ≠ b) : sizeN a ≠ sizeN b := fun e => h (sizeN_inj e)

set_option maxRecDepth 100000 in
set_option maxHeartbeats 2000000 in
theorem rget_0 (c : UInt8) (r : Bs) (w : World) (v : Value) (hv : Sl w v (c :: r)) (hc : c.toNat < 253) (hmax : r.length + 1 ≤ 140737488355328) : Calls Try.prog 11 #[v] w fun e w' => e = gotten (getB (c :: r)) ∧ Below w.heap.size w w' := by
  obtain ⟨ao, cap, rfl⟩ := hv.shape
  obtain ⟨g, o, rfl, hg, _, hcap, hcl⟩ := hv.at (by simp)
  rw [getB_cons]
  have hs : saidN c = 0 := by unfold saidN; rw [if_pos hc]
  have h1 : ((c.toNat : Int) == 253) = false := by simp; omega
  have h2 : ((c.toNat : Int) == 254) = false := by simp; omega
  have h3 : ((c.toNat : Int) == 255) = false := by simp; omega
  have hvn : valN c r = c.toNat := by unfold valN; rw [hs]; rfl
  have hvl := valN_lt c r
  have hc0 : w.cell? ⟨g, o, none⟩ = some (.int .u8 (c.toNat : Int)) := hcl 0 (by simp)
  have HCL : Hid (∀ i (h : i < r.length), w.cell? ⟨g, o + (i + 1), none⟩ = some (.int .u8 (r[i].toNat : Int))) := hid (fun i h => hcl (i + 1) (by simp; omega))
  have HPU := hid (fun W => rput_any (valN c r) hvl W)
  rw [hs, put_len] at *
  clear hv hcl hvl
  simp only [List.length_cons] at hcap ⊢
  have hzz : sizeN 0 = 1 := by decide
  rw [hzz]
  rw [hvn] at HPU ⊢
  
  generalize c.toNat = cc at *
  rw [if_neg (by omega), if_neg (fun h => h (formN_0 hc))]
  rw [formN_0 hc] at HPU
  have hccl : (cc : Int) < 253 := by omega
  clear HCL hvn hs hzz hmax hc
  generalize r.length = n at *
  go_enter Try.func11, Try.ntmps11
  go_wp2_with fail
  refine (HPU.out _).mono ?_
  rintro e w5 ⟨ao5, cap5, rfl, _, hb5⟩
  have HB5 := hid hb5
  clear hb5
  go_wp2_with fail
  go_ret3
  exact ⟨rfl, HB5.out⟩

set_option maxRecDepth 100000 in
set_option maxHeartbeats 2000000 in
theorem rget_1 (c : UInt8) (r : Bs) (w : World) (v : Value) (hv : Sl w v (c :: r)) (hc : c.toNat = 253) (hmax : r.length + 1 ≤ 140737488355328) : Calls Try.prog 11 #[v] w fun e w' => e = gotten (getB (c :: r)) ∧ Below w.heap.size w w' := by
  obtain ⟨ao, cap, rfl⟩ := hv.shape
  obtain ⟨g, o, rfl, hg, _, hcap, hcl⟩ := hv.at (by simp)
  rw [getB_cons]
  have hs : saidN c = 1 := by unfold saidN; rw [hc]; rfl
  have hvn : valN c r = numOf 0 (r.take 2) := by unfold valN; rw [hs]; rfl
  have hvl := valN_lt c r
  have hc0 : w.cell? ⟨g, o, none⟩ = some (.int .u8 (c.toNat : Int)) := hcl 0 (by simp)
  have HCL : Hid (∀ i (h : i < r.length), w.cell? ⟨g, o + (i + 1), none⟩ = some (.int .u8 (r[i].toNat : Int))) := hid (fun i h => hcl (i + 1) (by simp; omega))
  have HPU := hid (fun W => rput_any (valN c r) hvl W)
  rw [hs, put_len] at *
  clear hv hcl hvl
  simp only [List.length_cons] at hcap ⊢
  have hzz : sizeN 1 = 3 := by decide
  rw [hzz]
  
  rw [hc] at hc0
  by_cases hlen : r.length + 1 < 3
  · rw [if_pos hlen]
    have hl' : (r.length : Int) + 1 < 3 := by omega
    clear HPU HCL hvn hs hzz hmax hlen
    generalize r.length = n at *
    go_enter Try.func11, Try.ntmps11
    go_wp2_with fail
    go_ret3
    exact ⟨rfl, Below.refl _ _⟩
  · rw [if_neg hlen]
    have hl' : ¬ (r.length : Int) + 1 < 3 := by omega
    have HLEN := hid hlen
    have HVN := hid hvn
    generalize hvv : valN c r = vv at *
    obtain ⟨z, hz⟩ : ∃ z, z = sizeN (formN vv) := ⟨_, rfl⟩
    have HZ := hid hz
    rw [← hz] at HPU
    clear hvn hs hzz hlen hvv hz hc
    generalize hn : r.length = n at hl' hcap hmax ⊢
    have HN : Hid (n = r.length) := hid hn.symm
    clear hn
    generalize hA : (if formN vv ≠ 1 then ((0, 0, 50) : Nat × Nat × Nat) else (vv, 3, 0)) = A
    have HA := hid hA
    clear hA
    go_enter Try.func11, Try.ntmps11
    go_wp2_with fail
    go_loopg [6, 7] 2 (fun gg v6 v7 wr => wr = w ∧ ∃ i : Nat, i ≤ 2 ∧ gg = 2 - i ∧ v7 = .int .i64 ((i : Int) + 1) ∧ v6 = .int .u64 (numOf 0 (r.take i) : Int))
    case atStart => exact ⟨rfl, 0, by omega, by omega, rfl, rfl⟩
    case round =>
      obtain ⟨hwr, i, hi, rfl, rfl, rfl⟩ := hrel
      subst hwr
      by_cases hil : i < 2
      · have hi1 : (i : Int) + 1 < 3 := by omega
        have hir : i < r.length := by have := HLEN.out; have := HN.out; omega
        have hin : (i : Int) + 1 < (n : Int) + 1 := by have := HN.out; omega
        have hci := HCL.out i hir
        have hx := r[i].toNat_lt
        have HST : Hid (numOf 0 (r.take (i + 1)) = 256 * numOf 0 (r.take i) + r[i].toNat) := hid (by
          rw [List.take_succ_eq_append_getElem hir, numOf_app]; rfl)
        have ha : numOf 0 (r.take i) < 72057594037927936 := by
          have h1 := numOf_lt (r.take i)
          have h2 : 256 ^ (r.take i).length ≤ 256 ^ 7 := Nat.pow_le_pow_right (by decide) (by simp; omega)
          have h3 : (256 : Nat) ^ 7 = 72057594037927936 := by decide
          omega
        generalize numOf 0 (r.take i) = a at *
        generalize r[i].toNat = x at *
        have HOR := hid (or_byte a x ha hx)
        go_wp2_with fail
        go_roundg (2 - (i + 1))
        case measure => omega
        case rel => exact ⟨rfl, i + 1, by omega, rfl, by go_num, by rw [HST.out, HOR.out]⟩
      · have e : i = 2 := by omega
        subst e
        have HE : Hid (numOf 0 (r.take 2) = vv) := hid HVN.out.symm
        rw [HE.out]
        clear hi hil HCL
        by_cases hzf : z = 3
        · have hzk : formN vv = 1 := sizeN_inj (by rw [← HZ.out, hzf]; rfl)
          have HAE : Hid (A = (vv, 3, 0)) := hid (by rw [← HA.out, if_neg (fun h => h hzk)])
          subst hzf
          clear hzk
          go_wp2_with fail
          refine (HPU.out _).mono ?_
          rintro e w5 ⟨ao5, cap5, rfl, _, hb5⟩
          have HB5 := hid hb5
          clear hb5
          go_wp2_with fail
          go_ret3
          exact ⟨by rw [HAE.out]; rfl, HB5.out⟩
        · have hzk : formN vv ≠ 1 := fun e => hzf (by rw [HZ.out, e]; rfl)
          have HAE : Hid (A = (0, 0, 50)) := hid (by rw [← HA.out, if_pos hzk])
          have hzi : ¬ (z : Int) = 3 := by omega
          have hzb : ((z : Int) == 3) = false := by simpa using hzi
          clear hzk
          go_wp2_with fail
          refine (HPU.out _).mono ?_
          rintro e w5 ⟨ao5, cap5, rfl, _, hb5⟩
          have HB5 := hid hb5
          clear hb5
          go_wp2_with fail
          go_ret3
          exact ⟨by rw [HAE.out]; rfl, HB5.out⟩

set_option maxRecDepth 100000 in
set_option maxHeartbeats 2000000 in
theorem rget_2 (c : UInt8) (r : Bs) (w : World) (v : Value) (hv : Sl w v (c :: r)) (hc : c.toNat = 254) (hmax : r.length + 1 ≤ 140737488355328) : Calls Try.prog 11 #[v] w fun e w' => e = gotten (getB (c :: r)) ∧ Below w.heap.size w w' := by
  obtain ⟨ao, cap, rfl⟩ := hv.shape
  obtain ⟨g, o, rfl, hg, _, hcap, hcl⟩ := hv.at (by simp)
  rw [getB_cons]
  have hs : saidN c = 2 := by unfold saidN; rw [hc]; rfl
  have hvn : valN c r = numOf 0 (r.take 4) := by unfold valN; rw [hs]; rfl
  have hvl := valN_lt c r
  have hc0 : w.cell? ⟨g, o, none⟩ = some (.int .u8 (c.toNat : Int)) := hcl 0 (by simp)
  have HCL : Hid (∀ i (h : i < r.length), w.cell? ⟨g, o + (i + 1), none⟩ = some (.int .u8 (r[i].toNat : Int))) := hid (fun i h => hcl (i + 1) (by simp; omega))
  have HPU := hid (fun W => rput_any (valN c r) hvl W)
  rw [hs, put_len] at *
  clear hv hcl hvl
  simp only [List.length_cons] at hcap ⊢
  have hzz : sizeN 2 = 5 := by decide
  rw [hzz]
  
  rw [hc] at hc0
  by_cases hlen : r.length + 1 < 5
  · rw [if_pos hlen]
    have hl' : (r.length : Int) + 1 < 5 := by omega
    clear HPU HCL hvn hs hzz hmax hlen
    generalize r.length = n at *
    go_enter Try.func11, Try.ntmps11
    go_wp2_with fail
    go_ret3
    exact ⟨rfl, Below.refl _ _⟩
  · rw [if_neg hlen]
    have hl' : ¬ (r.length : Int) + 1 < 5 := by omega
    have HLEN := hid hlen
    have HVN := hid hvn
    generalize hvv : valN c r = vv at *
    obtain ⟨z, hz⟩ : ∃ z, z = sizeN (formN vv) := ⟨_, rfl⟩
    have HZ := hid hz
    rw [← hz] at HPU
    clear hvn hs hzz hlen hvv hz hc
    generalize hn : r.length = n at hl' hcap hmax ⊢
    have HN : Hid (n = r.length) := hid hn.symm
    clear hn
    generalize hA : (if formN vv ≠ 2 then ((0, 0, 50) : Nat × Nat × Nat) else (vv, 5, 0)) = A
    have HA := hid hA
    clear hA
    go_enter Try.func11, Try.ntmps11
    go_wp2_with fail
    go_loopg [6, 7] 4 (fun gg v6 v7 wr => wr = w ∧ ∃ i : Nat, i ≤ 4 ∧ gg = 4 - i ∧ v7 = .int .i64 ((i : Int) + 1) ∧ v6 = .int .u64 (numOf 0 (r.take i) : Int))
    case atStart => exact ⟨rfl, 0, by omega, by omega, rfl, rfl⟩
    case round =>
      obtain ⟨hwr, i, hi, rfl, rfl, rfl⟩ := hrel
      subst hwr
      by_cases hil : i < 4
      · have hi1 : (i : Int) + 1 < 5 := by omega
        have hir : i < r.length := by have := HLEN.out; have := HN.out; omega
        have hin : (i : Int) + 1 < (n : Int) + 1 := by have := HN.out; omega
        have hci := HCL.out i hir
        have hx := r[i].toNat_lt
        have HST : Hid (numOf 0 (r.take (i + 1)) = 256 * numOf 0 (r.take i) + r[i].toNat) := hid (by
          rw [List.take_succ_eq_append_getElem hir, numOf_app]; rfl)
        have ha : numOf 0 (r.take i) < 72057594037927936 := by
          have h1 := numOf_lt (r.take i)
          have h2 : 256 ^ (r.take i).length ≤ 256 ^ 7 := Nat.pow_le_pow_right (by decide) (by simp; omega)
          have h3 : (256 : Nat) ^ 7 = 72057594037927936 := by decide
          omega
        generalize numOf 0 (r.take i) = a at *
        generalize r[i].toNat = x at *
        have HOR := hid (or_byte a x ha hx)
        go_wp2_with fail
        go_roundg (4 - (i + 1))
        case measure => omega
        case rel => exact ⟨rfl, i + 1, by omega, rfl, by go_num, by rw [HST.out, HOR.out]⟩
      · have e : i = 4 := by omega
        subst e
        have HE : Hid (numOf 0 (r.take 4) = vv) := hid HVN.out.symm
        rw [HE.out]
        clear hi hil HCL
        by_cases hzf : z = 5
        · have hzk : formN vv = 2 := sizeN_inj (by rw [← HZ.out, hzf]; rfl)
          have HAE : Hid (A = (vv, 5, 0)) := hid (by rw [← HA.out, if_neg (fun h => h hzk)])
          subst hzf
          clear hzk
          go_wp2_with fail
          refine (HPU.out _).mono ?_
          rintro e w5 ⟨ao5, cap5, rfl, _, hb5⟩
          have HB5 := hid hb5
          clear hb5
          go_wp2_with fail
          go_ret3
          exact ⟨by rw [HAE.out]; rfl, HB5.out⟩
        · have hzk : formN vv ≠ 2 := fun e => hzf (by rw [HZ.out, e]; rfl)
          have HAE : Hid (A = (0, 0, 50)) := hid (by rw [← HA.out, if_pos hzk])
          have hzi : ¬ (z : Int) = 5 := by omega
          have hzb : ((z : Int) == 5) = false := by simpa using hzi
          clear hzk
          go_wp2_with fail
          refine (HPU.out _).mono ?_
          rintro e w5 ⟨ao5, cap5, rfl, _, hb5⟩
          have HB5 := hid hb5
          clear hb5
          go_wp2_with fail
          go_ret3
          exact ⟨by rw [HAE.out]; rfl, HB5.out⟩

set_option maxRecDepth 100000 in
set_option maxHeartbeats 2000000 in
theorem rget_3 (c : UInt8) (r : Bs) (w : World) (v : Value) (hv : Sl w v (c :: r)) (hc : c.toNat = 255) (hmax : r.length + 1 ≤ 140737488355328) : Calls Try.prog 11 #[v] w fun e w' => e = gotten (getB (c :: r)) ∧ Below w.heap.size w w' := by
  obtain ⟨ao, cap, rfl⟩ := hv.shape
  obtain ⟨g, o, rfl, hg, _, hcap, hcl⟩ := hv.at (by simp)
  rw [getB_cons]
  have hs : saidN c = 3 := by unfold saidN; rw [hc]; rfl
  have hvn : valN c r = numOf 0 (r.take 8) := by unfold valN; rw [hs]; rfl
  have hvl := valN_lt c r
  have hc0 : w.cell? ⟨g, o, none⟩ = some (.int .u8 (c.toNat : Int)) := hcl 0 (by simp)
  have HCL : Hid (∀ i (h : i < r.length), w.cell? ⟨g, o + (i + 1), none⟩ = some (.int .u8 (r[i].toNat : Int))) := hid (fun i h => hcl (i + 1) (by simp; omega))
  have HPU := hid (fun W => rput_any (valN c r) hvl W)
  rw [hs, put_len] at *
  clear hv hcl hvl
  simp only [List.length_cons] at hcap ⊢
  have hzz : sizeN 3 = 9 := by decide
  rw [hzz]
  
  rw [hc] at hc0
  by_cases hlen : r.length + 1 < 9
  · rw [if_pos hlen]
    have hl' : (r.length : Int) + 1 < 9 := by omega
    clear HPU HCL hvn hs hzz hmax hlen
    generalize r.length = n at *
    go_enter Try.func11, Try.ntmps11
    go_wp2_with fail
    go_ret3
    exact ⟨rfl, Below.refl _ _⟩
  · rw [if_neg hlen]
    have hl' : ¬ (r.length : Int) + 1 < 9 := by omega
    have HLEN := hid hlen
    have HVN := hid hvn
    generalize hvv : valN c r = vv at *
    obtain ⟨z, hz⟩ : ∃ z, z = sizeN (formN vv) := ⟨_, rfl⟩
    have HZ := hid hz
    rw [← hz] at HPU
    clear hvn hs hzz hlen hvv hz hc
    generalize hn : r.length = n at hl' hcap hmax ⊢
    have HN : Hid (n = r.length) := hid hn.symm
    clear hn
    generalize hA : (if formN vv ≠ 3 then ((0, 0, 50) : Nat × Nat × Nat) else (vv, 9, 0)) = A
    have HA := hid hA
    clear hA
    go_enter Try.func11, Try.ntmps11
    go_wp2_with fail
    go_loopg [6, 7] 8 (fun gg v6 v7 wr => wr = w ∧ ∃ i : Nat, i ≤ 8 ∧ gg = 8 - i ∧ v7 = .int .i64 ((i : Int) + 1) ∧ v6 = .int .u64 (numOf 0 (r.take i) : Int))
    case atStart => exact ⟨rfl, 0, by omega, by omega, rfl, rfl⟩
    case round =>
      obtain ⟨hwr, i, hi, rfl, rfl, rfl⟩ := hrel
      subst hwr
      by_cases hil : i < 8
      · have hi1 : (i : Int) + 1 < 9 := by omega
        have hir : i < r.length := by have := HLEN.out; have := HN.out; omega
        have hin : (i : Int) + 1 < (n : Int) + 1 := by have := HN.out; omega
        have hci := HCL.out i hir
        have hx := r[i].toNat_lt
        have HST : Hid (numOf 0 (r.take (i + 1)) = 256 * numOf 0 (r.take i) + r[i].toNat) := hid (by
          rw [List.take_succ_eq_append_getElem hir, numOf_app]; rfl)
        have ha : numOf 0 (r.take i) < 72057594037927936 := by
          have h1 := numOf_lt (r.take i)
          have h2 : 256 ^ (r.take i).length ≤ 256 ^ 7 := Nat.pow_le_pow_right (by decide) (by simp; omega)
          have h3 : (256 : Nat) ^ 7 = 72057594037927936 := by decide
          omega
        generalize numOf 0 (r.take i) = a at *
        generalize r[i].toNat = x at *
        have HOR := hid (or_byte a x ha hx)
        go_wp2_with fail
        go_roundg (8 - (i + 1))
        case measure => omega
        case rel => exact ⟨rfl, i + 1, by omega, rfl, by go_num, by rw [HST.out, HOR.out]⟩
      · have e : i = 8 := by omega
        subst e
        have HE : Hid (numOf 0 (r.take 8) = vv) := hid HVN.out.symm
        rw [HE.out]
        clear hi hil HCL
        by_cases hzf : z = 9
        · have hzk : formN vv = 3 := sizeN_inj (by rw [← HZ.out, hzf]; rfl)
          have HAE : Hid (A = (vv, 9, 0)) := hid (by rw [← HA.out, if_neg (fun h => h hzk)])
          subst hzf
          clear hzk
          go_wp2_with fail
          refine (HPU.out _).mono ?_
          rintro e w5 ⟨ao5, cap5, rfl, _, hb5⟩
          have HB5 := hid hb5
          clear hb5
          go_wp2_with fail
          go_ret3
          exact ⟨by rw [HAE.out]; rfl, HB5.out⟩
        · have hzk : formN vv ≠ 3 := fun e => hzf (by rw [HZ.out, e]; rfl)
          have HAE : Hid (A = (0, 0, 50)) := hid (by rw [← HA.out, if_pos hzk])
          have hzi : ¬ (z : Int) = 9 := by omega
          have hzb : ((z : Int) == 9) = false := by simpa using hzi
          clear hzk
          go_wp2_with fail
          refine (HPU.out _).mono ?_
          rintro e w5 ⟨ao5, cap5, rfl, _, hb5⟩
          have HB5 := hid hb5
          clear hb5
          go_wp2_with fail
          go_ret3
          exact ⟨by rw [HAE.out]; rfl, HB5.out⟩

set_option maxHeartbeats 400000 in
theorem rget_any (b : Bs) (w : World) (v : Value) (hs : Sl w v b) (hmax : b.length ≤ 140737488355328) : Calls Try.prog 11 #[v] w fun e w' => e = gotten (getB b) ∧ Below w.heap.size w w' := by
  cases b with
  | nil =>
    obtain ⟨ao, cap, rfl⟩ := hs.shape
    clear hs
    go_enter Try.func11, Try.ntmps11
    go_wp2_with fail
    go_ret3
    exact ⟨rfl, Below.refl _ _⟩
  | cons c r =>
    have hc := c.toNat_lt
    by_cases h0 : c.toNat < 253
    · exact rget_0 c r w v hs h0 (by simpa using hmax)
    · by_cases h1 : c.toNat = 253
      · exact rget_1 c r w v hs h1 (by simpa using hmax)
      · by_cases h2 : c.toNat = 254
        · exact rget_2 c r w v hs h2 (by simpa using hmax)
        · exact rget_3 c r w v hs (by omega) (by simpa using hmax)
end Go.Proofs.Ytcmbijckhcckpaa
