/- The document's Bits. -/
import Derived.Test.YtelfogdcijmenaaDoorNumb
import Derived.Test.YtelfogdcijmenaaDoorDec
namespace Go.Proofs.YtelfogdcijmenaaDoor
open Go.RowKit

set_option maxRecDepth 100000 in
set_option maxHeartbeats 8000000 in
theorem rbits_bad (b : Bs) (v : Value) (f t : Int) (pad : Bool) (w : World) (hs : Sl w v b) (h : f < 1 ∨ 8 < f ∨ t < 1 ∨ 8 < t) :
    Calls Tryd.prog 15 #[v, .int .i64 f, .int .i64 t, .bool pad] w fun e w' => e = .returned (.tuple #[.slice none 0 0, .int .i64 2]) ∧ Below w.heap.size w w' := by
  obtain ⟨av, cv, rfl⟩ := hs.shape
  by_cases h1 : f < 1
  · go_enter Tryd.func15, Tryd.ntmps15
    go_wp2_with fail
    go_ret2
    exact ⟨rfl, Below.refl _ _⟩
  · by_cases h2 : 8 < f
    · go_enter Tryd.func15, Tryd.ntmps15
      go_wp2_with fail
      go_ret2
      exact ⟨rfl, Below.refl _ _⟩
    · by_cases h3 : t < 1
      · go_enter Tryd.func15, Tryd.ntmps15
        go_wp2_with fail
        go_ret2
        exact ⟨rfl, Below.refl _ _⟩
      · have h4 : 8 < t := by omega
        go_enter Tryd.func15, Tryd.ntmps15
        go_wp2_with fail
        go_ret2
        exact ⟨rfl, Below.refl _ _⟩
theorem bits_get (k n j : Nat) (h : j < k) (h' : j < (bitsOf k n).length) : (bitsOf k n)[j] = UInt8.ofNat (n / 2 ^ (k - 1 - j) % 2) := by
  induction k generalizing j with
  | zero => omega
  | succ k ih =>
    cases j with
    | zero => simp [bitsOf]
    | succ j =>
      have := ih j (by omega) (by rw [bits_len]; omega)
      simp only [bitsOf, List.getElem_cons_succ, this]
      congr 4
      omega
theorem shl_small (F : Nat) (h : F ≤ 8) : wrap64 (2 ^ F) = (2 : Int) ^ F := by
  have hp8 : 2 ^ F ≤ 2 ^ 8 := Nat.pow_le_pow_right (by omega) h
  have e1 : ((2 : Int) ^ F) = ((2 ^ F : Nat) : Int) := by simp
  rw [e1]
  exact wrap_small _ (by omega)
theorem bit8 : ∀ a : Fin 256, bits .and .u8 (a.val : Int) 1 = ((a.val % 2 : Nat) : Int) := by decide +kernel
theorem slice_from22 (a : Option Addr) (n cap k : Nat) (h : k ≤ n) (W : World) : (Instr.sliceAt 22 (.slice a n cap) (some (.int .i64 (k : Int))) none none).run Tryd.prog W = .ok (.slice (if cap = k then a else a.map (·.add k)) (n - k) (cap - k)) W := by
  obtain ⟨i, hi, hz⟩ := Option.map_eq_some_iff.1 Tryd.size5
  have h1 : (k : Int) ≤ (n : Int) := by omega
  simp [Instr.sliceAt, Instr.slice, Instr.sliceBounds, Instr.sliceBound, asIntOf, run_underlying Tryd.underlying22, sizeOf, typeInfo, hi, hz, go_sem]
  intro h'; omega
theorem slice_to22 (a : Option Addr) (n cap k : Nat) (h : k ≤ cap) (W : World) : (Instr.sliceAt 22 (.slice a n cap) none (some (.int .i64 (k : Int))) none).run Tryd.prog W = .ok (.slice a k cap) W := by
  obtain ⟨i, hi, hz⟩ := Option.map_eq_some_iff.1 Tryd.size5
  have h1 : (k : Int) ≤ (cap : Int) := by omega
  have h0 : ∀ x : Addr, x.add 0 = x := fun x => by unfold Addr.add; split <;> simp_all
  simp [Instr.sliceAt, Instr.slice, Instr.sliceBounds, Instr.sliceBound, asIntOf, run_underlying Tryd.underlying22, sizeOf, typeInfo, hi, go_sem, h0, h]
/-- a row cut off ahead once more -/
theorem Owo.drop {w : World} {B g o n cap : Nat} {M : Bs} (h : Owo w B g o n cap M) (k : Nat) (hk : k ≤ M.length) : ∃ o', (some (⟨g, o', none⟩ : Addr)) = (if cap = k then some ⟨g, o, none⟩ else (some (⟨g, o, none⟩ : Addr)).map (·.add k)) ∧ Owo w B g o' (n - k) (cap - k) (M.drop k) := by
  obtain ⟨rfl, h2, cur, h3, h5, h6, h7, h8⟩ := h
  by_cases hc : cap = k
  · refine ⟨o, by rw [if_pos hc], by simp, h2, cur, h3, by simp; omega, by omega, by omega, ?_⟩
    have : M.drop k = [] := List.drop_eq_nil_of_le (by omega)
    rw [this]
    rfl
  · refine ⟨o + k, by rw [if_neg hc]; simp [add_plain], by simp, h2, cur, h3, by simp; omega, by omega, by omega, ?_⟩
    rw [← List.drop_drop, List.length_drop]
    have h9 : ((cur.toList.drop o).drop k).take (M.length - k) = ((cur.toList.drop o).take M.length).drop k := by rw [List.drop_take]
    rw [h9, h8]
    simp [Lib.byteCells]
/-- a row of one's own that holds something, as a row that may be cut off ahead -/
theorem owo_of {w : World} {B n : Nat} {v : Value} {M : Bs} (h : w.ownsRow B 5 1 v n (bcs M)) (hn : n = M.length) (h0 : 0 < n) : ∃ g cap, v = .slice (some ⟨g, 0, none⟩) n cap ∧ Owo w B g 0 n cap M := by
  rcases h.2 with ⟨_, h2⟩ | ⟨g, cap, cur, h1, h2, h3, h4, h5, h6, h7⟩
  · omega
  · refine ⟨g, cap, h1, hn, h2, cur, h3, by omega, h5, by omega, ?_⟩
    rw [List.drop_zero, ← hn]
    simpa using h7
/-- what is left of the row lies there -/
def Rv (w : World) (B : Nat) (a : Option Addr) (c : Nat) (M : Bs) : Prop := Sl w (.slice a M.length c) M ∧ (0 < M.length → ∃ g o, a = some ⟨g, o, none⟩ ∧ Owo w B g o M.length c M)
theorem rv_of {w : World} {B n : Nat} {a : Option Addr} {c : Nat} {M : Bs} (h : w.ownsRow B 5 1 (.slice a n c) n (bcs M)) (hn : n = M.length) : Rv w B a c M := by
  subst hn
  refine ⟨Sl.own h rfl, fun h0 => ?_⟩
  obtain ⟨g, cap, e, ho⟩ := owo_of h rfl h0
  cases e
  exact ⟨g, 0, rfl, ho⟩
set_option maxRecDepth 100000 in
set_option maxHeartbeats 8000000 in
theorem rbits_good (b : Bs) (v : Value) (F N : Nat) (pad : Bool) (w : World) (hs : Sl w v b) (hF : 1 ≤ F ∧ F ≤ 8) (hN : 1 ≤ N ∧ N ≤ 8) (hm : b.length ≤ 1000000000) :
    Calls Tryd.prog 15 #[v, .int .i64 (F : Int), .int .i64 (N : Int), .bool pad] w fun e w' => ∃ ao cap, e = cutted ao cap (bitsB b F N pad) ∧ Sl w' (.slice ao (bitsB b F N pad).1.length cap) (bitsB b F N pad).1 ∧ Below w.heap.size w w' := by
  have HS := hid hs
  obtain ⟨av, cv, rfl⟩ := hs.shape
  obtain ⟨A, hA⟩ : ∃ A, A = bitsB b F N pad := ⟨_, rfl⟩
  rw [← hA]
  have HA := hid hA
  obtain ⟨n, hn⟩ : ∃ n, n = b.length := ⟨_, rfl⟩
  rw [← hn] at hm ⊢
  have HN := hid hn
  have f1 : ¬ (F : Int) < 1 := by omega
  have f2 : ¬ (8 : Int) < (F : Int) := by omega
  have t1 : ¬ (N : Int) < 1 := by omega
  have t2 : ¬ (8 : Int) < (N : Int) := by omega
  clear hs hA hn
  go_enter Tryd.func15, Tryd.ntmps15
  go_wp2_with fail
  go_loopg [10, 11, 12] n (fun gg v10 v11 v12 wr => ∃ (i : Nat) (a : Option Addr) (c : Nat), i ≤ n ∧ gg = n - i ∧ v11 = .int .i64 (i : Int) ∧ v10 = .slice a (F * i) c ∧ Hid ((b.take i).any (overB F) = false) ∧ wr.ownsRow w.heap.size 5 1 (.slice a (F * i) c) (F * i) (bcs (rowB F (b.take i))) ∧ Below w.heap.size w wr)
  case atStart => exact ⟨0, none, 0, by omega, by omega, rfl, rfl, hid rfl, own_none _ _, Below.refl _ _⟩
  case round =>
    obtain ⟨i, a, c, hi, rfl, rfl, rfl, hov, how, hbel⟩ := hrel
    by_cases hin : i < n
    · have hi1 : (i : Int) < (n : Int) := by omega
      have hib : i < b.length := by rw [← HN.out]; exact hin
      obtain ⟨g, o, rfl, hg, hq, hcap, hcc⟩ := HS.out.at (fun e => by rw [e] at hib; simp at hib)
      have hck0 := hcc i hib
      have hck : wr.cell? ⟨g, o + i, none⟩ = some (By b[i]) := by rw [← hck0]; exact World.cell?_of_block (hbel.block g hg)
      rw [← HN.out] at hcap
      have HTK : Hid (b.take (i + 1) = b.take i ++ [b[i]]) := hid (by rw [List.take_add_one, List.getElem?_eq_getElem hib]; rfl)
      have HOV := hid (any_take_succ (overB F) b i hib)
      rw [hov.out, Bool.false_or] at HOV
      generalize b[i] = x at *
      have hx8 := x.toNat_lt
      have hsh : wrap64 (2 ^ F) = (2 : Int) ^ F := shl_small F hF.2
      have HCK0 := hid hck0
      have HOW := hid how
      have HBE := hid hbel
      clear hcc hq hov how hbel hck0
      by_cases hbig : 2 ^ F ≤ x.toNat
      · have HZ : Hid (A = ([], 50)) := hid (by rw [HA.out]; unfold bitsB; rw [if_pos (any_of_take (by rw [HOV.out]; simpa [overB] using hbig))])
        have hge : (2 : Int) ^ F ≤ (x.toNat : Int) := by
          have := Int.ofNat_le.2 hbig
          simpa using this
        have hxx : (x.toNat : Int) < 256 := Int.ofNat_lt.2 hx8
        clear hbig HCK0 HTK
        go_wp2_with fail
        go_quiet (fail)
        go_wp2_with fail
        go_ret2
        refine ⟨none, 0, ?_⟩
        rw [HZ.out]
        exact ⟨rfl, Sl.nil _, below_drewN HBE.out _⟩
      · have hlt : x.toNat < 2 ^ F := Nat.lt_of_not_le hbig
        have HLT := hid hlt
        have HNX : Hid ((b.take (i + 1)).any (overB F) = false) := hid (by rw [HOV.out]; simpa [overB] using hlt)
        have hge : ¬ (2 : Int) ^ F ≤ (x.toNat : Int) := by
          intro h
          have h2 : ((2 ^ F : Nat) : Int) ≤ (x.toNat : Int) := by simpa using h
          exact hbig (Int.ofNat_le.1 h2)
        have hxx : (x.toNat : Int) < 256 := Int.ofNat_lt.2 hx8
        have HRW : Hid (rowB F (b.take (i + 1)) = rowB F (b.take i) ++ bitsOf F x.toNat) := hid (by
          have h2 : rowB F [x] = bitsOf F x.toNat := by unfold rowB; simp
          rw [HTK.out, row_app, h2])
        have HRL : Hid ((rowB F (b.take i)).length = F * i) := hid (by rw [row_len, List.length_take, Nat.min_eq_left (by rw [← HN.out]; omega)])
        clear hbig hlt HTK HOV
        go_wp2_with fail
        go_quiet (fail)
        go_wp2_with fail
        clear hck hsh hge
        have HW2 : Hid (Below w.heap.size w (wr.drewN nq)) := hid (below_drewN HBE.out nq)
        have HO2 : Hid ((wr.drewN nq).ownsRow w.heap.size 5 1 (.slice a (F * i) c) (F * i) (bcs (rowB F (b.take i)))) := hid HOW.out
        generalize wr.drewN nq = w2 at *
        clear HOW HBE
        go_loopg [10, 12] F (fun gg v10 v12 wr => ∃ (kk j : Nat) (a : Option Addr) (c : Nat), gg = kk ∧ kk + j = F ∧ v12 = .int .i64 ((kk : Int) - 1) ∧ v10 = .slice a (F * i + j) c ∧ wr.ownsRow w.heap.size 5 1 (.slice a (F * i + j) c) (F * i + j) (bcs (rowB F (b.take i) ++ (bitsOf F x.toNat).take j)) ∧ Below w.heap.size w wr)
        case atStart => exact ⟨F, 0, a, c, rfl, by omega, rfl, rfl, by simpa using HO2.out, HW2.out⟩
        case round =>
          obtain ⟨kk, j, a3, c3, hgg, hkj, rfl, rfl, how, hbel⟩ := hrel
          have HGG := hid hgg
          clear hgg
          clear HO2 HW2
          by_cases hk0 : kk = 0
          · subst hk0
            have hjF : j = F := by omega
            subst hjF
            have htk : (bitsOf j x.toNat).take j = bitsOf j x.toNat := List.take_of_length_le (by rw [bits_len]; exact Nat.le_refl _)
            rw [htk, ← HRW.out] at how
            clear htk
            have HO3 := hid how
            have HB3 := hid hbel
            clear how hbel
            have e9 : j * i + j = j * (i + 1) := by rw [Nat.mul_succ]
            rw [e9] at HO3 ⊢
            go_wp2_with fail
            go_roundg (n - (i + 1))
            case measure => omega
            case rel => exact ⟨i + 1, a3, c3, by omega, rfl, by go_num, rfl, HNX, HO3.out, HB3.out⟩
          · obtain ⟨k, rfl⟩ : ∃ k, kk = k + 1 := ⟨kk - 1, by omega⟩
            have hjl : j < (bitsOf F x.toNat).length := by rw [bits_len]; omega
            have hbj := bits_get F x.toNat j (by omega) hjl
            have hkF : F - 1 - j = k := by omega
            rw [hkF] at hbj
            have HMT : Hid ((bitsOf F x.toNat).take (j + 1) = (bitsOf F x.toNat).take j ++ [UInt8.ofNat (x.toNat / 2 ^ k % 2)]) := hid (by rw [List.take_add_one, List.getElem?_eq_getElem hjl, hbj]; rfl)
            have hd256 : x.toNat / 2 ^ k < 256 := Nat.lt_of_le_of_lt (Nat.div_le_self _ _) hx8
            have hb8 := bit8 ⟨x.toNat / 2 ^ k, hd256⟩
            simp only at hb8
            have hbit : bits .and .u8 ((x.toNat : Int) / 2 ^ k) 1 = ((x.toNat / 2 ^ k % 2 : Nat) : Int) := by
              have e1 : ((x.toNat : Int) / 2 ^ k) = ((x.toNat / 2 ^ k : Nat) : Int) := by simp
              rw [e1]
              exact hb8
            have hen : ((UInt8.ofNat (x.toNat / 2 ^ k % 2)).toNat : Int) = ((x.toNat / 2 ^ k % 2 : Nat) : Int) := by rw [UInt8.toNat_ofNat']; omega
            obtain ⟨D, hD⟩ : ∃ D, D = x.toNat / 2 ^ k % 2 := ⟨_, rfl⟩
            rw [← hD] at hbit hen HMT
            obtain ⟨a9, c9, w9, hr9, ho9, hg9, hp9⟩ := append_one how (UInt8.ofNat D) _ hen (by rw [List.length_append, HRL.out, List.length_take, Nat.min_eq_left (Nat.le_of_lt hjl)]) (by have := Nat.mul_le_mul hF.2 hi; omega) hbel.size
            have HR9 := hid hr9
            have HO9 := hid ho9
            have HB9 := hid (one_below hbel how hg9 hbel.size)
            have hck : wr.cell? ⟨g, o + i, none⟩ = some (By x) := by rw [← HCK0.out]; exact World.cell?_of_block (hbel.block g hg)
            have hge : (0 : Int) ≤ (((k + 1 : Nat) : Int) - 1) := by omega
            have hk9 : (((k + 1 : Nat) : Int) - 1) = (k : Int) := by omega
            rw [hk9] at hge ⊢
            obtain ⟨fi, hfi⟩ : ∃ fi, fi = F * i + j := ⟨_, rfl⟩
            rw [← hfi] at HR9 HO9 ⊢
            have HFI := hid hfi
            clear hjl hbj hkF hd256 hb8 hen hD hr9 ho9 hg9 hp9 how hbel hk0 hk9 hfi
            go_wp2_with (first | (at_builtin; refine wpList_append_run rfl _ _ 22 rfl _ _ (.slice a9 (fi + 1) c9) w9 rfl rfl HR9.out ?_) | fail)
            go_roundg k
            case measure => have := HGG.out; omega
            case rel => exact ⟨k, j + 1, a9, c9, rfl, by omega, by go_num, by rw [HFI.out, Nat.add_assoc], by rw [HMT.out, ← List.append_assoc, ← Nat.add_assoc, ← HFI.out]; exact HO9.out, HB9.out⟩
    · have hi1 : ¬ (i : Int) < (n : Int) := by omega
      have hie : i = n := by omega
      subst hie
      have htk : b.take i = b := List.take_of_length_le (by rw [← HN.out]; exact Nat.le_refl _)
      rw [htk] at hov how
      obtain ⟨R, hR⟩ : ∃ R, R = rowB F b := ⟨_, rfl⟩
      have hRl : R.length = F * i := by rw [hR, row_len, ← HN.out]
      have hRB : Bit R := by rw [hR]; exact row_bit _ _
      rw [← hR] at how
      have HAE : Hid (A = if pad = true then (if restB N R = [] then (cutB N R, 0) else (cutB N R ++ [UInt8.ofNat (numB (restB N R) * 2 ^ (N - (restB N R).length))], 0)) else if F ≤ (restB N R).length ∨ numB (restB N R) ≠ 0 then ([], 50) else (cutB N R, 0)) := hid (by
        rw [HA.out]
        unfold bitsB
        rw [if_neg (by rw [hov.out]; decide), ← hR])
      have hRm : R.length ≤ 8000000000 := by rw [hRl]; have := Nat.mul_le_mul hF.2 hm; omega
      rw [← hRl] at how ⊢
      have HRV := hid (rv_of how rfl)
      have HRM := hid hRm
      have HRB := hid hRB
      have HBE := hid hbel
      obtain ⟨w3, hw3⟩ : ∃ w3, w3 = wr := ⟨_, rfl⟩
      rw [← hw3] at HRV HBE ⊢
      clear htk hov how hR hRl hRB hRm hbel HA hw3 hin hi
      go_wp2_with fail
      go_loopg [10, 13] R.length (fun gg v10 v13 wr => ∃ (a10 a13 : Option Addr) (c10 c13 : Nat) (ys M : Bs), gg = M.length ∧ v10 = .slice a10 M.length c10 ∧ v13 = .slice a13 ys.length c13 ∧ Rv w3 w.heap.size a10 c10 M ∧ Hid (ys ++ cutB N M = cutB N R) ∧ Hid (restB N M = restB N R) ∧ Hid (Bit M) ∧ wr.ownsRow w3.heap.size 5 1 (.slice a13 ys.length c13) ys.length (bcs ys) ∧ Below w3.heap.size w3 wr)
      case atStart => exact ⟨a, none, c, 0, [], R, rfl, rfl, rfl, HRV.out, hid rfl, hid rfl, HRB, own_none _ _, Below.refl _ _⟩
      case round =>
        obtain ⟨a10, a13, c10, c13, ys, M, hgg, rfl, rfl, hrv, hcut, hrest, hbit, how, hbel⟩ := hrel
        have HGG := hid hgg
        clear hgg HRV
        by_cases hMN : N ≤ M.length
        · have hge : (N : Int) ≤ (M.length : Int) := by omega
          obtain ⟨g, o, rfl, hoo⟩ := hrv.2 (by omega)
          have hcg := cut_ge (by omega : 0 < N) hMN
          have hcap := hoo.lt.2.2.2
          have hst := slice_to22 (some ⟨g, o, none⟩) M.length c10 N (by omega)
          have hsf := slice_from22 (some ⟨g, o, none⟩) M.length c10 N hMN
          obtain ⟨o2, he2, hoo2⟩ := hoo.drop N hMN
          rw [← he2] at hsf
          have hBT : Bit (M.take N) := fun y hy => hbit.out y (List.mem_of_mem_take hy)
          have hTL : (M.take N).length = N := by rw [List.length_take]; omega
          have hsl := ((hoo.sl.below hbel).take N hMN c10 (fun e => by cases e) (by omega))
          have hnum := number_any (M.take N) _ wr hsl hBT (by rw [hTL]; omega)
          have hnl := num_lt hBT
          rw [hTL] at hnl
          have h256 : numB (M.take N) < 256 := Nat.lt_of_lt_of_le hnl (by have := Nat.pow_le_pow_right (n := 2) (by omega) hN.2; simpa using this)
          have hen : ((UInt8.ofNat (numB (M.take N))).toNat : Int) = (numB (M.take N) : Int) := by rw [UInt8.toNat_ofNat']; omega
          have hys : ys.length + 1 ≤ 140737488355328 := by
            have h1 := congrArg List.length hcut.out
            have h2 := cut_le N R
            have h3 := HRM.out
            rw [List.length_append] at h1
            omega
          obtain ⟨a9, c9, w9, hr9, ho9, hg9, hp9⟩ := append_one how (UInt8.ofNat (numB (M.take N))) _ hen rfl hys hbel.size
          have HR9 := hid hr9
          have HO9 := hid ho9
          have HB9 := hid (one_below hbel how hg9 hbel.size)
          have HNUM := hid hnum
          have HCUT : Hid ((ys ++ [UInt8.ofNat (numB (M.take N))]) ++ cutB N (M.drop N) = cutB N R) := hid (by rw [← hcut.out, hcg.1, List.append_assoc]; rfl)
          have HREST : Hid (restB N (M.drop N) = restB N R) := hid (by rw [← hrest.out, hcg.2])
          have HBIT : Hid (Bit (M.drop N)) := hid (fun y hy => hbit.out y (List.mem_of_mem_drop hy))
          have HDL : Hid ((M.drop N).length = M.length - N) := hid List.length_drop
          have HRV2 : Hid (Rv w3 w.heap.size (some ⟨g, o2, none⟩) (c10 - N) (M.drop N)) := hid (by
            rw [← HDL.out] at hoo2
            exact ⟨hoo2.sl, fun _ => ⟨g, o2, rfl, hoo2⟩⟩)
          have HMN := hid hMN
          obtain ⟨yl, hyl⟩ : ∃ yl, yl = ys.length := ⟨_, rfl⟩
          rw [← hyl] at HR9 HO9 ⊢
          have HYL := hid hyl
          obtain ⟨ml, hml⟩ : ∃ ml, ml = M.length := ⟨_, rfl⟩
          rw [← hml] at hst hsf hge ⊢
          have HML := hid hml
          rw [← hml] at HDL HGG HMN
          have hN0 : 1 ≤ N := hN.1
          have hmlN : N ≤ ml := by rw [hml]; exact hMN
          have hcapm : ml ≤ c10 := by rw [hml]; exact hcap
          generalize numB (M.take N) = P at *
          clear hrv hoo hcg hcap he2 hoo2 hBT hTL hsl hnum hnl h256 hen hys hr9 ho9 hg9 hp9 hcut hrest hbit how hbel hMN hyl hml
          go_wp2_with fail
          refine HNUM.out.mono ?_
          rintro e w4 ⟨rfl, hw4⟩
          subst hw4
          go_wp2_with (first | (at_builtin; refine wpList_append_run rfl _ _ 22 rfl _ _ (.slice a9 (yl + 1) c9) w9 rfl rfl HR9.out ?_) | fail)
          go_roundg (ml - N)
          case measure => have h1 := HGG.out; have h2 := HMN.out; omega
          case rel => exact ⟨some ⟨g, o2, none⟩, a9, c10 - N, c9, ys ++ [UInt8.ofNat P], M.drop N, HDL.out.symm, by rw [HDL.out], by rw [List.length_append, ← HYL.out]; rfl, HRV2.out, HCUT, HREST, HBIT, by rw [List.length_append, ← HYL.out]; exact HO9.out, HB9.out⟩
        · have hge : ¬ (N : Int) ≤ (M.length : Int) := by omega
          have hcl := cut_lt (t := N) (L := M) (by omega)
          have hxs : ys = cutB N R := by rw [← hcut.out, hcl.1, List.append_nil]
          have hrs : M = restB N R := by rw [← hrest.out, hcl.2]
          rw [← hxs, ← hrs] at HAE
          have hys : ys.length ≤ 8000000000 := by
            rw [hxs]
            exact Nat.le_trans (cut_le _ _) HRM.out
          have HYM := hid hys
          have HRV3 := hid hrv
          have HBT := hid hbit.out
          have HOW := hid how
          have HB3 := hid hbel
          have HBW := hid (HBE.out.trans (hbel.mono HBE.out.size))
          have hM0 : M = [] ↔ M.length = 0 := List.length_eq_zero_iff.symm
          have HM0 := hid hM0
          have hMlt : M.length < N := by omega
          clear hcl hxs hrs hys hrv hcut hrest hbit how hbel hM0 HGG
          cases pad with
          | true =>
            rw [if_pos rfl] at HAE
            by_cases h0 : M.length = 0
            · rw [if_pos (HM0.out.2 h0)] at HAE
              have hgt : ¬ (0 : Int) < (M.length : Int) := by omega
              have HSY := hid (Sl.own HOW.out rfl)
              obtain ⟨yl, hyl⟩ : ∃ yl, yl = ys.length := ⟨_, rfl⟩
              rw [← hyl] at HSY ⊢
              have HYL := hid hyl
              generalize M.length = ml at *
              clear hyl
              go_wp2_with fail
              go_ret2
              refine ⟨a13, c13, ?_⟩
              rw [HAE.out]
              simp only [cutted, ← HYL.out]
              exact ⟨rfl, HSY.out, HBW.out⟩
            · rw [if_neg (fun e => h0 (HM0.out.1 e))] at HAE
              have hgt : (0 : Int) < (M.length : Int) := by omega
              obtain ⟨g, o, rfl, hoo⟩ := HRV3.out.2 (by omega)
              have hg3 := hoo.lt.1
              have HOO := hid (hoo.same (HB3.out.block g hg3))
              have HDJ : Hid (∀ bb, (Value.slice a13 ys.length c13).ownBlock = some bb → bb ≠ g) := hid (fun bb hbb => by
                have := (HOW.out.lt bb hbb).1
                omega)
              have HOW2 := hid (own_mono HOW.out HBE.out.size)
              obtain ⟨ml, hml⟩ : ∃ ml, ml = M.length := ⟨_, rfl⟩
              obtain ⟨yl, hyl⟩ : ∃ yl, yl = ys.length := ⟨_, rfl⟩
              rw [← hml] at hgt hge hMlt HOO HAE ⊢
              rw [← hyl] at HOW2 HDJ HYM ⊢
              have HML := hid hml
              have HYL := hid hyl
              obtain ⟨wz, hwz⟩ : ∃ wz, wz = wr := ⟨_, rfl⟩
              rw [← hwz] at HOO HOW2 HBW ⊢
              clear hoo hg3 h0 hml hyl HRV3 HOW HB3 hwz
              go_wp2_with fail
              go_loopg [10] (N - ml) (fun gg v10 wr => ∃ (j g o cp : Nat), ml + j ≤ N ∧ gg = N - (ml + j) ∧ v10 = .slice (some ⟨g, o, none⟩) (ml + j) cp ∧ Owo wr w.heap.size g o (ml + j) cp (M ++ List.replicate j 0) ∧ (∀ bb, (Value.slice a13 yl c13).ownBlock = some bb → bb ≠ g) ∧ wr.ownsRow w.heap.size 5 1 (.slice a13 yl c13) yl (bcs ys) ∧ Below w.heap.size w wr)
              case atStart => exact ⟨0, g, o, c10, by omega, by omega, rfl, by simpa using HOO.out, HDJ.out, HOW2.out, HBW.out⟩
              case round =>
                obtain ⟨j, g5, o5, c5, hjN, hgg, rfl, hoo, hdj, how, hbel⟩ := hrel
                have HGG := hid hgg
                clear hgg HOO HDJ HOW2 HBW
                by_cases hlt : ml + j < N
                · have hl1 : ((ml : Int) + (j : Int)) < (N : Int) := by omega
                  obtain ⟨g8, o8, c8, w8, hr8, ho8, hb8, hp8, hk8⟩ := owo_one hoo 0 0 rfl (by omega) hbel.size
                  have HR8 := hid hr8
                  have HO8 := hid ho8
                  have HB8 := hid (hb8 w hbel)
                  have HW8 := hid (ownsRow_same how (fun bb hbb => hk8 bb (how.lt bb hbb).2 (hdj bb hbb)))
                  have HD8 : Hid (∀ bb, (Value.slice a13 yl c13).ownBlock = some bb → bb ≠ g8) := hid (fun bb hbb => by
                    rcases hp8 with e | e
                    · rw [e]; exact hdj bb hbb
                    · have := (how.lt bb hbb).2
                      omega)
                  clear hoo hdj how hbel hr8 ho8 hb8 hp8 hk8
                  go_wp2_with (first | (at_builtin; refine wpList_append_run rfl _ _ 22 rfl _ _ (.slice (some ⟨g8, o8, none⟩) (ml + j + 1) c8) w8 rfl rfl HR8.out ?_) | fail)
                  go_roundg (N - (ml + (j + 1)))
                  case measure => have := HGG.out; omega
                  case rel => exact ⟨j + 1, g8, o8, c8, by omega, rfl, rfl, by rw [List.replicate_succ', ← List.append_assoc, ← Nat.add_assoc]; exact HO8.out, HD8.out, HW8.out, HB8.out⟩
                · have hl1 : ¬ ((ml : Int) + (j : Int)) < (N : Int) := by omega
                  have hjN' : N = ml + j := by omega
                  have hLB : Bit (M ++ List.replicate j 0) := fun y hy => by
                    rcases List.mem_append.1 hy with h | h
                    · exact HBT.out y h
                    · rw [List.eq_of_mem_replicate h]; decide
                  have hLl : (M ++ List.replicate j 0).length = N := by rw [List.length_append, List.length_replicate, ← HML.out, hjN']
                  have hnz : numB (M ++ List.replicate j 0) = numB M * 2 ^ j := by rw [num_app, num_zeros, List.length_replicate, Nat.add_zero]
                  have hnum := number_any _ _ wr hoo.sl hLB (by rw [hLl]; exact hN.2)
                  have hnl := num_lt hLB
                  rw [hLl, hnz] at hnl
                  rw [hnz] at hnum
                  have h256 : numB M * 2 ^ j < 256 := Nat.lt_of_lt_of_le hnl (by have := Nat.pow_le_pow_right (n := 2) (by omega) hN.2; simpa using this)
                  have hen : ((UInt8.ofNat (numB M * 2 ^ j)).toNat : Int) = ((numB M * 2 ^ j : Nat) : Int) := by rw [UInt8.toNat_ofNat']; omega
                  obtain ⟨a9, c9, w9, hr9, ho9, hg9, hp9⟩ := append_one how (UInt8.ofNat (numB M * 2 ^ j)) _ hen HYL.out (by have := HYM.out; omega) hbel.size
                  have HR9 := hid hr9
                  have HS9 := hid (Sl.own ho9 (by rw [List.length_append, ← HYL.out]; rfl))
                  have HB9 := hid (one_below hbel how hg9 hbel.size)
                  have HNUM := hid hnum
                  have HAE2 : Hid (A = (ys ++ [UInt8.ofNat (numB M * 2 ^ j)], 0)) := hid (by rw [HAE.out, hjN', Nat.add_sub_cancel_left])
                  obtain ⟨P, hP⟩ : ∃ P, P = numB M * 2 ^ j := ⟨_, rfl⟩
                  rw [← hP] at HR9 HS9 HNUM HAE2
                  clear hLB hLl hnz hnum hnl h256 hen hr9 ho9 hg9 hp9 hoo hdj how hbel hP hjN'
                  go_wp2_with fail
                  refine HNUM.out.mono ?_
                  rintro e w4 ⟨rfl, hw4⟩
                  subst hw4
                  go_wp2_with (first | (at_builtin; refine wpList_append_run rfl _ _ 22 rfl _ _ (.slice a9 (yl + 1) c9) w9 rfl rfl HR9.out ?_) | fail)
                  go_ret2
                  refine ⟨a9, c9, ?_⟩
                  rw [HAE2.out]
                  simp only [cutted, List.length_append, ← HYL.out]
                  exact ⟨rfl, HS9.out, HB9.out⟩
          | false =>
            rw [if_neg (by decide)] at HAE
            have HSY := hid (Sl.own HOW.out rfl)
            have HNUM := hid (number_any M _ wr (HRV3.out.1.below HB3.out) HBT.out (by omega))
            obtain ⟨yl, hyl⟩ : ∃ yl, yl = ys.length := ⟨_, rfl⟩
            rw [← hyl] at HSY ⊢
            have HYL := hid hyl
            generalize M.length = ml at *
            generalize numB M = H at *
            clear hyl
            by_cases h1 : F ≤ ml
            · rw [if_pos (Or.inl h1)] at HAE
              have e1 : (F : Int) ≤ (ml : Int) := by omega
              go_wp2_with fail
              go_ret2
              refine ⟨none, 0, ?_⟩
              rw [HAE.out]
              exact ⟨rfl, Sl.nil _, HBW.out⟩
            · have e1 : ¬ (F : Int) ≤ (ml : Int) := by omega
              by_cases h2 : H = 0
              · rw [if_neg (by omega)] at HAE
                subst h2
                go_wp2_with fail
                refine HNUM.out.mono ?_
                rintro e w4 ⟨rfl, hw4⟩
                subst hw4
                go_wp2_with fail
                go_ret2
                refine ⟨a13, c13, ?_⟩
                rw [HAE.out]
                simp only [cutted, ← HYL.out]
                exact ⟨rfl, HSY.out, HBW.out⟩
              · rw [if_pos (Or.inr h2)] at HAE
                have e2 : ((H : Int) == 0) = false := by simp; omega
                go_wp2_with fail
                refine HNUM.out.mono ?_
                rintro e w4 ⟨rfl, hw4⟩
                subst hw4
                go_wp2_with fail
                go_ret2
                refine ⟨none, 0, ?_⟩
                rw [HAE.out]
                exact ⟨rfl, Sl.nil _, HBW.out⟩
end Go.Proofs.YtelfogdcijmenaaDoor
