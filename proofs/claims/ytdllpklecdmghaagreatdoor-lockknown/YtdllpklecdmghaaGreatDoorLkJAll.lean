import Derived.Test.YtdllpklecdmghaaGreatDoorLkGAll
import Derived.Test.YtdllpklecdmghaaGreatDoorLkOAll
import Derived.Test.YtdllpklecdmghaaGreatDoorScnAll
/- The keys of a lock. -/
namespace Go.Proofs.YtdllpklecdmghaaGreatDoor
open Go.RowKit
open Lk (Lt)
namespace Lk
theorem keys_app : ∀ (a b : List Lt), keysAll (a ++ b) = keysAll a ++ keysAll b
  | [], b => by simp [keysAll]
  | x :: a, b => by rw [List.cons_append, keysAll, keysAll, keys_app a b, List.append_assoc]
theorem keys_next {ks : List Lt} {i : Nat} (hi : i < ks.length) : keysAll (ks.take (i + 1)) = keysAll (ks.take i) ++ keys ks[i] := by
  rw [List.take_add_one, List.getElem?_eq_getElem hi, keys_app]
  simp [keysAll]
theorem keys_le {ks : List Lt} (i : Nat) : (keysAll (ks.take i)).length ≤ (keysAll ks).length := by
  have h := congrArg (fun x => (keysAll x).length) (List.take_append_drop i ks)
  simp only [keys_app, List.length_append] at h
  omega
theorem keys_size : ∀ (l : Lt), (keys l).length ≤ size l := by
  intro l
  induction l using Lt.ind with
  | h k t n ks ih =>
    have hs : ∀ (ms : List Lt), (∀ x ∈ ms, x ∈ ks) → (keysAll ms).length ≤ sizes ms := by
      intro ms
      induction ms with
      | nil => intro _; simp [keysAll, sizes]
      | cons x ms ihm =>
        intro hm
        rw [keysAll, sizes, List.length_append]
        have h1 := ih x (hm x (by simp))
        have h2 := ihm (fun y hy => hm y (by simp [hy]))
        omega
    rw [keys, size]
    split
    · simp
    · have := hs ks (fun _ h => h)
      omega
end Lk
set_option maxHeartbeats 8000000 in
set_option maxRecDepth 100000 in
theorem akeys_any (w0 : World) {b : Nat → Prop} (d : Nat) : ∀ (l : Lt) (kv : Value), Kd b w0 d kv l.kids → Lk.ok l = true → ∀ (w : World) (v : Value) (out : List Bs), Below w0.heap.size w0 w → w.ownsRow w0.heap.size 22 1 v out.length (out.map fun b => St b) → out.length + (Lk.keys l).length ≤ 100000 → Calls Tryz.prog 38 #[v, .agg (lcs l kv)] w fun e w' => ∃ v', e = .returned v' ∧ w'.ownsRow w0.heap.size 22 1 v' (out ++ Lk.keys l).length ((out ++ Lk.keys l).map fun b => St b) ∧ Below w0.heap.size w0 w' := by
  induction d using Nat.strongRecOn with
  | ind d ih =>
    intro l kv hk hok w v out hB hown hlen
    obtain ⟨kd, t, n, ks⟩ := l
    obtain ⟨hl, ao, cap, rfl, hks⟩ := hk.parts
    clear hk
    have hl : ks.length ≤ 140737488355328 := hl
    have hks : Kr b w0 d ao ks := hks
    rw [Lk.ok, Bool.and_eq_true] at hok
    obtain ⟨hfit, hoks⟩ := hok
    rw [Lk.keys] at hlen ⊢
    show Calls Tryz.prog 38 #[v, .agg #[.int .u8 (kd : Int), St t, .int .i64 n, .slice ao ks.length cap]] w _
    obtain ⟨va, vc, rfl⟩ := row_shape hown
    by_cases k1 : kd = 1
    · subst k1
      simp only [if_true] at hlen ⊢
      have htl : t.length ≤ 20000 := by
        have := (Tm.deep_is (Lk.fit_t (.inl rfl) hfit).2.2).2
        omega
      have HFT : Hid (∀ W, Calls Tryz.prog 43 #[St t] W fun e w' => e = .returned (St t) ∧ Below W.heap.size W w') := hid (fun W => freshT_any t W htl)
      obtain ⟨w1, hw1⟩ : ∃ w1, w1 = w.alloc (.cells #[.int .u8 1, St t, .int .i64 n, .slice ao ks.length cap] 25) := ⟨_, rfl⟩
      have HB1 : Hid (Below w0.heap.size w0 w1) := hid (by rw [hw1]; exact hB.trans ((below_al w _).mono hB.size))
      have HO1 : Hid (w1.ownsRow w0.heap.size 22 1 (.slice va out.length vc) out.length (out.map fun b => St b)) := hid (by rw [hw1]; exact hown.alloc _)
      have HLN : Hid (out.length + 1 ≤ 1000000) := hid (by simp at hlen; omega)
      obtain ⟨nO, hnO⟩ : ∃ nO, nO = out.length := ⟨_, rfl⟩
      have HNO := hid hnO
      rw [← hnO]
      clear hfit hoks hks ih hlen hown hB hl htl hnO
      go_enter Tryz.func38, Tryz.ntmps38
      go_wp2_with fail
      rw [← hw1]
      refine (HFT.out _).mono ?_
      rintro e w2 ⟨rfl, hb2⟩
      have hb02 : Below w0.heap.size w0 w2 := HB1.out.trans (hb2.mono HB1.out.size)
      have ho2 := ownsRow_of_heap HO1.out (fun k hk => hb2.block k hk)
      obtain ⟨a3, c3, w3, r3, o3, g3⟩ := app_term ho2 t HLN.out hb02.size
      rw [← HNO.out] at r3 o3
      have HR3 := hid r3
      have HF : Hid (w3.ownsRow w0.heap.size 22 1 (.slice a3 (nO + 1) c3) (out ++ [t]).length ((out ++ [t]).map fun b => St b) ∧ Below w0.heap.size w0 w3) := hid ⟨o3, below_own hb02 hb02.size ho2 g3⟩
      clear hb2 hb02 ho2 r3 o3 g3 hw1
      go_wp2_with (first | (at_builtin; refine wpList_append_run rfl (.tmp 10) (.tmp 14) 32 32 rfl _ _ (.slice a3 (nO + 1) c3) w3 rfl rfl HR3.out ?_) | fail)
      go_ret
      exact ⟨.slice a3 (nO + 1) c3, rfl, HF.out⟩
    · rw [if_neg k1] at hlen ⊢
      have hki : ¬ (kd : Int) = 1 := by omega
      obtain ⟨m, hm⟩ : ∃ m, m = ks.length := ⟨_, rfl⟩
      rw [← hm] at hl ⊢
      have HM := hid hm
      have HL := hid hl
      have HKS := hid hks
      have HIH := hid ih
      have HOK := hid hoks
      have HLEN := hid hlen
      have HF0 : Hid (∀ o, (w.alloc o).ownsRow w0.heap.size 22 1 (.slice va out.length vc) (out ++ Lk.keysAll (ks.take 0)).length ((out ++ Lk.keysAll (ks.take 0)).map fun b => St b) ∧ Below w0.heap.size w0 (w.alloc o)) := hid (fun o => ⟨by rw [List.take_zero, Lk.keysAll, List.append_nil]; exact hown.alloc o, hB.trans ((below_al w o).mono hB.size)⟩)
      clear hm hl hks ih hoks hlen hown hB hfit
      obtain ⟨nO, hnO⟩ : ∃ nO, nO = out.length := ⟨_, rfl⟩
      rw [← hnO] at HF0 ⊢
      go_enter Tryz.func38, Tryz.ntmps38
      go_wp2_with fail
      clear hnO
      have hkb : ((kd : Int) == 1) = false := by simpa using hki
      simp only [hkb]
      go_loopg [0, 19] m (fun gg v0 v19 wr => ∃ (i : Nat) (v : Value), gg = m - i ∧ i ≤ m ∧ v0 = v ∧ v19 = .int .i64 (i : Int) ∧ wr.ownsRow w0.heap.size 22 1 v (out ++ Lk.keysAll (ks.take i)).length ((out ++ Lk.keysAll (ks.take i)).map fun b => St b) ∧ Below w0.heap.size w0 wr)
      case atStart => exact ⟨0, _, rfl, Nat.zero_le _, rfl, rfl, HF0.out _⟩
      case round =>
        obtain ⟨i, v, rfl, hi, rfl, rfl, ho, hb⟩ := hrel
        obtain ⟨a5, c5, rfl⟩ := row_shape ho
        by_cases him : i < m
        · have hik : i < ks.length := by have := HM.out; omega
          have hks' : Kr b w0 d ao ks := HKS.out
          obtain ⟨g, o, hg, _, hc⟩ := hks' (show 0 < ks.length by omega)
          clear hks'
          subst hg
          obtain ⟨kv, hcs, hz1, d', hd', hkd⟩ := hc i hik
          clear hz1
          obtain ⟨x, hx⟩ : ∃ x, x = ks[i] := ⟨_, rfl⟩
          rw [← hx] at hcs hkd
          obtain ⟨hz1, a6, c6, rfl⟩ := hkd.shape
          clear hz1
          have e0 : wr.cell? ⟨g, o + i * 4, none⟩ = some (.int .u8 (x.kind : Int)) := cell_later hb (hcs 0 _ rfl)
          have e1 : wr.cell? ⟨g, o + i * 4 + 1, none⟩ = some (St x.term) := cell_later hb (hcs 1 _ rfl)
          have e2 : wr.cell? ⟨g, o + i * 4 + 2, none⟩ = some (.int .i64 x.n) := cell_later hb (hcs 2 _ rfl)
          have e3 : wr.cell? ⟨g, o + i * 4 + 3, none⟩ = some (.slice a6 x.kids.length c6) := cell_later hb (hcs 3 _ rfl)
          have hokx : Lk.ok x = true := Lk.oks_get HOK.out x (by rw [hx]; exact List.getElem_mem hik)
          have hle : (Lk.keysAll (ks.take i)).length + (Lk.keys x).length ≤ (Lk.keysAll ks).length := by
            have h1 := Lk.keys_le (ks := ks) (i + 1)
            rw [Lk.keys_next hik, List.length_append, ← hx] at h1
            exact h1
          have HNX : Hid ((out ++ Lk.keysAll (ks.take i)) ++ Lk.keys x = out ++ Lk.keysAll (ks.take (i + 1))) := hid (by rw [Lk.keys_next hik, ← hx]; simp)
          have HCA : Hid (∀ ob, Calls Tryz.prog 38 #[.slice a5 (out ++ Lk.keysAll (ks.take i)).length c5, .agg #[.int .u8 (x.kind : Int), St x.term, .int .i64 x.n, .slice a6 x.kids.length c6]] (wr.alloc ob) fun e w' => ∃ v', e = .returned v' ∧ w'.ownsRow w0.heap.size 22 1 v' (out ++ Lk.keysAll (ks.take (i + 1))).length ((out ++ Lk.keysAll (ks.take (i + 1))).map fun b => St b) ∧ Below w0.heap.size w0 w') := hid (fun ob => by
            rw [← HNX.out]
            exact HIH.out d' hd' x _ hkd hokx (wr.alloc ob) _ _ (hb.trans ((below_al wr ob).mono hb.size)) (ho.alloc ob) (by have := HLEN.out; simp only [List.length_append] at *; omega))
          have hiw : IntKind.i64.wrap ((i : Int) + 1) = ((i + 1 : Nat) : Int) := by rw [IntKind.wrap_i64]; have := HL.out; omega
          have hi0 : (0 : Int) ≤ (i : Int) := Int.natCast_nonneg _
          have hi1 : (i : Int) < (m : Int) := by omega
          have HI := hid him
          generalize (out ++ Lk.keysAll (ks.take i)).length = n5 at *
          clear hcs hkd hc hik him hi hx hokx hle ho hb HNX
          go_wp2_with fail
          refine (HCA.out _).mono ?_
          rintro e w6 ⟨v6, rfl, h6⟩
          have H6 := hid h6
          clear h6 HCA
          go_wp2_with fail
          go_roundg (m - (i + 1))
          case measure => have := HI.out; omega
          case rel => exact ⟨i + 1, v6, rfl, HI.out, rfl, rfl, H6.out⟩
        · have hie : i = m := by omega
          subst hie
          have hin : ¬ (i : Int) < (i : Int) := by omega
          have HE : Hid (wr.ownsRow w0.heap.size 22 1 (.slice a5 (out ++ Lk.keysAll (ks.take i)).length c5) (out ++ Lk.keysAll ks).length ((out ++ Lk.keysAll ks).map fun b => St b) ∧ Below w0.heap.size w0 wr) := hid ⟨by
            have h := ho
            rw [show ks.take i = ks by rw [HM.out, List.take_length]] at h ⊢
            exact h, hb⟩
          generalize (out ++ Lk.keysAll (ks.take i)).length = n5 at *
          clear ho hb hi him
          go_wp2_with fail
          go_ret
          exact ⟨.slice a5 n5 c5, rfl, by simpa using HE.out⟩
def keysRes (l : Lt) : List Bs := if Lk.right l = true then Lk.keys l else []
set_option maxHeartbeats 4000000 in
theorem keys_any {b : Nat → Prop} (d : Nat) (l : Lt) (kv : Value) (w : World) (hk : Kd b w d kv l.kids) : Calls Tryz.prog 13 #[.agg (lcs l kv)] w fun e w' => ∃ v', e = .returned v' ∧ w'.ownsRow w.heap.size 22 1 v' (keysRes l).length ((keysRes l).map fun b => St b) ∧ Below w.heap.size w w' := by
  obtain ⟨hz, ao, cap, rfl⟩ := hk.shape
  clear hz
  obtain ⟨w0, hw0⟩ : ∃ w0, w0 = w.alloc (.cells #[.int .u8 (l.kind : Int), St l.term, .int .i64 l.n, .slice ao l.kids.length cap] 25) := ⟨_, rfl⟩
  have hB0 : Below w.heap.size w w0 := by rw [hw0]; exact below_al _ _
  have HR1 : Hid (Calls Tryz.prog 10 #[.agg #[.int .u8 (l.kind : Int), St l.term, .int .i64 l.n, .slice ao l.kids.length cap]] w0 fun e w' => e = .returned (.bool (Lk.right l)) ∧ Below w0.heap.size w0 w') := hid (lright_any d l _ w0 (hk.low hB0))
  have HAL : Hid (Lk.right l = true → ∀ W, Below w0.heap.size w0 W → Calls Tryz.prog 38 #[.slice none 0 0, .agg #[.int .u8 (l.kind : Int), St l.term, .int .i64 l.n, .slice ao l.kids.length cap]] W fun e w' => ∃ v', e = .returned v' ∧ w'.ownsRow w0.heap.size 22 1 v' (Lk.keys l).length ((Lk.keys l).map fun b => St b) ∧ Below w0.heap.size w0 w') := hid (fun hr W hW => by
    have h := (Lk.right_is l).1 hr
    have := Lk.keys_size l
    exact akeys_any w0 d l _ (hk.low hB0) h.1 W (.slice none 0 0) [] hW ⟨rfl, .inl ⟨rfl, rfl⟩⟩ (by simp only [List.length_nil]; omega))
  have HC0 : Hid (∀ W, Below w0.heap.size w0 W → W.cell? ⟨w.heap.size, 0, none⟩ = some (.int .u8 (l.kind : Int)) ∧ W.cell? ⟨w.heap.size, 1, none⟩ = some (St l.term) ∧ W.cell? ⟨w.heap.size, 2, none⟩ = some (.int .i64 l.n) ∧ W.cell? ⟨w.heap.size, 3, none⟩ = some (.slice ao l.kids.length cap)) := hid (fun W hW => by
    have h := fun (j : Nat) (u : Value) (hu : (#[Value.int .u8 (l.kind : Int), St l.term, .int .i64 l.n, .slice ao l.kids.length cap] : Array Value)[j]? = some u) => cell_later hW (a := ⟨w.heap.size, j, none⟩) (v := u) (by rw [hw0]; exact (cell_of_heap (heap_alloc_new w _) j).trans hu)
    exact ⟨h 0 _ rfl, h 1 _ rfl, h 2 _ rfl, h 3 _ rfl⟩)
  have HB0 := hid hB0
  have HSZ : Hid (w.heap.size ≤ w0.heap.size) := hid hB0.size
  have HKR : Hid (keysRes l = if Lk.right l = true then Lk.keys l else []) := hid rfl
  unfold lcs
  clear hk hB0
  generalize keysRes l = KR at *
  generalize Lk.keys l = K at *
  generalize Lk.right l = R at *
  go_enter Tryz.func13, Tryz.ntmps13
  go_wp2_with fail
  rw [← hw0]
  refine HR1.out.mono ?_
  rintro e w1 ⟨rfl, hb⟩
  obtain ⟨q0, q1, q2, q3⟩ := HC0.out w1 hb
  have HB1 := hid (HB0.out.trans (hb.mono HB0.out.size))
  cases R with
  | false =>
    have HK2 : Hid (KR = []) := hid HKR.out
    clear hb HR1 HAL hw0 HC0 HKR
    go_wp2_with fail
    go_ret
    exact ⟨.slice none 0 0, rfl, by rw [HK2.out]; exact ⟨rfl, .inl ⟨rfl, rfl⟩⟩, HB1.out⟩
  | true =>
    have HK2 : Hid (KR = K) := hid HKR.out
    have HA1 := hid (HAL.out rfl w1 hb)
    clear hb HR1 HAL hw0 HC0 HKR
    go_wp2_with fail
    refine HA1.out.mono ?_
    rintro e w2 ⟨v2, rfl, ho, hb2⟩
    have HO := hid ho
    have HB2 := hid (HB0.out.trans (hb2.mono HB0.out.size))
    obtain ⟨a3, c3, rfl⟩ := row_shape ho
    clear ho hb2 HA1 q0 q1 q2 q3
    go_wp2_with fail
    go_ret
    exact ⟨_, rfl, by rw [HK2.out]; exact ownsRow_base HO.out HSZ.out, HB2.out⟩
end Go.Proofs.YtdllpklecdmghaaGreatDoor
/- The chapter's lock; what LockNeeds asks. -/
namespace Go.Proofs.YtdllpklecdmghaaGreatDoor
open Go.RowKit
open Lk (Lt Sp)
def chB : Lt := .mk 5 [] 0 [.mk 2 [72, 110, 50, 59] 0 [], .mk 4 [] 6 []]
def chL : Lt := .mk 6 [] 0 [.mk 1 [80, 110, 49, 59] 0 [], chB]
def chT : Bs := [124, 50, 58, 115, 80, 110, 49, 59, 38, 50, 58, 112, 72, 110, 50, 59, 111, 54, 59]
theorem ch_right : Lk.right chL = true := by decide +kernel
theorem ch_wr : Lk.wr chL = chT := by
  have h6 : Lib.decDigits 6 = [54] := Lib.decDigits_one (by decide)
  have h2 : Lib.decDigits 2 = [50] := Lib.decDigits_one (by decide)
  unfold chL chB chT
  simp only [Lk.wr, Lk.wrs, List.length_cons, List.length_nil, Nat.zero_add, Nat.reduceAdd, show ((6 : Int)).toNat = 6 from rfl, h2, h6]
  rfl
theorem ch_rd : Lk.rdRes chT = some chL := (Lk.rdRes_iff chT chL).2 ⟨ch_right, ch_wr.symm⟩
theorem ch_wres : wrRes chL = (chT, 0) := by unfold wrRes; rw [if_pos ch_right, ch_wr]
theorem ch_same : Lk.same chL chL = true := (Lk.same_iff chL chL).2 rfl
theorem ch_smalls : Lk.smalls [.mk 1 [80, 110, 49, 59] 0 [], chB] = true ∧ Lk.smalls [.mk 2 [72, 110, 50, 59] 0 [], .mk 4 [] 6 []] = true := by decide +kernel
theorem ch_keys : (keysRes chL).length = 1 := by
  unfold keysRes
  rw [if_pos ch_right]
  decide +kernel
def sp1 : Sp := ⟨[[83, 110, 49, 59, 116, 49, 58, 120]], [], [116, 49, 58, 120], 0, 0⟩
def sp2 : Sp := ⟨[[83, 110, 49, 59, 116, 49, 58, 120]], [], [116, 49, 58, 121], 0, 0⟩
def sp3 : Sp := ⟨[], [[110, 50, 59]], [116, 49, 58, 120], 0, 6⟩
def sp4 : Sp := ⟨[], [[110, 50, 59]], [116, 49, 58, 120], 0, 5⟩
theorem ch_o1 : opRes chL sp1 = true := by decide +kernel
theorem ch_o2 : opRes chL sp2 = false := by decide +kernel
theorem ch_o3 : opRes chL sp3 = true := by decide +kernel
theorem ch_o4 : opRes chL sp4 = false := by decide +kernel
def nmT (i : Nat) : Bs := [110, UInt8.ofNat (49 + i), 59]
theorem nm_is : ∀ i, i < 4 → Tm.deep (nmT i) = 1 ∧ Tm.pk (nmT i) = 80 :: nmT i ∧ Tm.deep (80 :: nmT i) = 2 ∧ Tm.deep (72 :: nmT i) = 2 ∧ verifyRes (80 :: nmT i) [116, 49, 58, 109] (83 :: (nmT i ++ [116, 49, 58, 109])) = true := by decide +kernel
theorem ver_nm {i : Nat} (hi : i < 4) (x : Bs) : verifyRes (80 :: nmT i) [116, 49, 58, 109] x = decide (x = 83 :: (nmT i ++ [116, 49, 58, 109])) := by
  obtain ⟨h1, h2, _, _, h5⟩ := nm_is i hi
  by_cases e : x = 83 :: (nmT i ++ [116, 49, 58, 109])
  · rw [e, h5]
    simp
  · rw [decide_eq_false e]
    cases hv : verifyRes (80 :: nmT i) [116, 49, 58, 109] x with
    | false => rfl
    | true =>
      exfalso
      apply e
      unfold verifyRes at hv
      split at hv
      · rename_i hc
        obtain ⟨hd, hh⟩ := hc
        match x, hh with
        | c :: l, hh =>
          obtain rfl : c = 83 := by simpa using hh
          obtain ⟨k, q, a, b, hk, hpq, hp, hq, ha, hb64, _⟩ := kids_two hd (by decide)
          rw [hk] at hv
          simp only [Bool.and_eq_true, beq_iff_eq] at hv
          obtain ⟨rfl, hpk⟩ := hv
          have hi1 := (Tm.deep_is (l := nmT i) (by omega)).1
          rw [h1] at hi1
          have := (Tm.pk_inj k.length (x := []) (y := []) (Nat.le_refl _) hp hi1 (by omega) (by omega) (by rw [List.append_nil, List.append_nil, hpk, h2])).1
          rw [hpq, this]
      · cases hv
def ndL (i j : Nat) (n m : Int) : Lt := .mk 5 [] 0 [.mk 1 (80 :: nmT i) 0 [], .mk 2 (72 :: nmT j) 0 [], .mk 3 [] n [], .mk 4 [] m []]
theorem nd_right {i j : Nat} (hi : i < 4) (hj : j < 4) {n m : Int} (hn : 0 ≤ n ∧ n < 1000) (hm : 0 ≤ m ∧ m < 1000) : Lk.right (ndL i j n m) = true := by
  rw [Lk.right_is]
  obtain ⟨_, _, h3, _, _⟩ := nm_is i hi
  obtain ⟨_, _, _, h4, _⟩ := nm_is j hj
  refine ⟨?_, by unfold ndL; simp [Lk.size, Lk.sizes]⟩
  have e1 : Lk.fit (.mk 1 (80 :: nmT i) 0 []) = true := by
    unfold Lk.fit Lk.isKey
    simp [Lt.kind, Lt.n, Lt.kids, Lt.term, h3, Tm.isPk]
  have e2 : Lk.fit (.mk 2 (72 :: nmT j) 0 []) = true := by
    unfold Lk.fit Lk.isOp
    simp [Lt.kind, Lt.n, Lt.kids, Lt.term, h4]
  have e3 : Lk.fit (.mk 3 [] n []) = true := by
    unfold Lk.fit
    simp [Lt.kind, Lt.n, Lt.kids, Lt.term, hn.1, show n ≤ 1073741823 by omega]
  have e4 : Lk.fit (.mk 4 [] m []) = true := by
    unfold Lk.fit
    simp [Lt.kind, Lt.n, Lt.kids, Lt.term, hm.1, show m ≤ 1073741823 by omega]
  unfold ndL
  rw [Lk.ok, Lk.oks, Lk.oks, Lk.oks, Lk.oks, Lk.oks, Lk.ok, Lk.ok, Lk.ok, Lk.ok, e1, e2, e3, e4, Lk.oks]
  rfl
theorem nd_op {i j : Nat} (hi : i < 4) (hj : j < 4) {n m : Int} (hn : 0 ≤ n ∧ n < 1000) (hm : 0 ≤ m ∧ m < 1000) (sg pr : List Bs) (af ag : Int) :
    opRes (ndL i j n m) ⟨sg, pr, [116, 49, 58, 109], af, ag⟩ = (decide (sg.length ≤ 16) && decide (pr.length ≤ 16) && sg.any (fun x => decide (x = 83 :: (nmT i ++ [116, 49, 58, 109]))) && pr.any (fun x => decide (x = nmT j)) && decide (n ≤ af) && decide (m ≤ ag)) := by
  unfold opRes
  rw [nd_right hi hj hn hm]
  have e1 : Lk.opn verifyRes ⟨sg, pr, [116, 49, 58, 109], af, ag⟩ (.mk 1 (80 :: nmT i) 0 []) = sg.any (fun x => decide (x = 83 :: (nmT i ++ [116, 49, 58, 109]))) := by
    rw [Lk.opn, if_pos rfl]
    simp only [ver_nm hi]
  have e2 : Lk.opn verifyRes ⟨sg, pr, [116, 49, 58, 109], af, ag⟩ (.mk 2 (72 :: nmT j) 0 []) = pr.any (fun x => decide (x = nmT j)) := by
    rw [Lk.opn, if_neg (by decide), if_pos rfl]
    simp only [List.cons.injEq, true_and]
  unfold ndL
  rw [Lk.opn, if_neg (by decide), if_neg (by decide), if_neg (by decide), if_neg (by decide), if_pos rfl, Lk.opnAll, Lk.opnAll, Lk.opnAll, Lk.opnAll, Lk.opnAll, e1, e2, Lk.opn, Lk.opn, if_neg (by decide), if_neg (by decide), if_pos rfl, if_neg (by decide), if_neg (by decide), if_neg (by decide), if_pos rfl]
  simp only [Bool.true_and, Bool.and_true, Bool.and_assoc]
end Go.Proofs.YtdllpklecdmghaaGreatDoor
