import Derived.Test.YtkifchjpgdmcoaaGreatDoorRRfAll
import Derived.Test.YtkifchjpgdmcoaaGreatDoorAskAll
import Derived.Test.YtkifchjpgdmcoaaGreatDoorMkAll
/- What the document's makers answer. -/
namespace Go.Proofs.YtkifchjpgdmcoaaGreatDoor
open Go.RowKit
def madeRes (l : Bs) : Bs × Nat := if Tm.deep l = 0 then ([], 3) else (l, 0)
set_option maxHeartbeats 1000000 in
set_option maxRecDepth 100000 in
theorem rmade_any (l : Bs) (w : World) : Calls Tryz.prog 90 #[St l] w fun en w' => en = made (madeRes l) ∧ Below w.heap.size w w' := by
 by_cases hd : Tm.deep l = 0
 · have HR : Hid (madeRes l = ([], 3)) := by apply hid; unfold madeRes; rw [if_pos hd]
   have HD := hid hd
   clear hd
   go_enter Tryz.func90, Tryz.ntmps90
   go_wp2_with fail
   refine (rright_any l _).mono ?_
   rintro e w1 ⟨rfl, hb⟩
   have HB := hid hb
   clear hb
   rw [HD.out]
   go_wp2_with fail
   go_ret2
   exact ⟨by rw [HR.out]; rfl, HB.out⟩
 · have HR : Hid (madeRes l = (l, 0)) := by apply hid; unfold madeRes; rw [if_neg hd]
   have HD : Hid ((Tm.deep l != 0) = true) := by apply hid; simpa using hd
   clear hd
   go_enter Tryz.func90, Tryz.ntmps90
   go_wp2_with fail
   refine (rright_any l _).mono ?_
   rintro e w1 ⟨rfl, hb⟩
   have HB := hid hb
   clear hb
   rw [HD.out]
   go_wp2_with fail
   go_ret2
   exact ⟨by rw [HR.out]; rfl, HB.out⟩
theorem conv_one (w : World) (op : UInt8) : (convert 90 9 (.slice (some ⟨w.heap.size, 0, none⟩) 1 1)).run Tryz.prog (w.alloc (.cells #[.int .u8 (op.toNat : Int)] 5)) = .ok (St [op]) (w.alloc (.cells #[.int .u8 (op.toNat : Int)] 5)) := by
 refine run_convert_bytes_back (P := Tryz.prog) _ 90 9 5 ⟨w.heap.size, 0, none⟩ 1 [op] Tryz.underlying90 Tryz.underlying5 Tryz.underlying9 (fun j hj => ?_)
 have hg : (w.alloc (.cells #[.int .u8 (op.toNat : Int)] 5)).heap[w.heap.size]? = some (.cells #[.int .u8 (op.toNat : Int)] 5 (0, 0)) := heap_alloc_new w _
 match j, hj with
 | 0, _ => show World.cell? _ ⟨w.heap.size, 0, none⟩ = _; rw [cell_of_heap hg]; rfl
theorem st_one (op : UInt8) (b : Bs) : (⟨#[op]⟩ : ByteArray) ++ (⟨b.toArray⟩ : ByteArray) = ⟨(op :: b).toArray⟩ := st_app [op] b
theorem st_two (op : UInt8) (a b : Bs) : (⟨#[op]⟩ : ByteArray) ++ (⟨a.toArray⟩ : ByteArray) ++ (⟨b.toArray⟩ : ByteArray) = ⟨(op :: (a ++ b)).toArray⟩ := by
 rw [st_one, st_app]; rfl
def oneRes (op : UInt8) (a : Bs) : Bs × Nat := if Tm.deep a = 0 then ([], 10) else madeRes (op :: a)
def twoRes (op : UInt8) (a b : Bs) : Bs × Nat := if Tm.deep a = 0 ∨ Tm.deep b = 0 then ([], 10) else madeRes (op :: (a ++ b))
set_option maxHeartbeats 1000000 in
set_option maxRecDepth 100000 in
theorem rtwo_any (op : UInt8) (a b : Bs) (w : World) : Calls Tryz.prog 71 #[.int .u8 (op.toNat : Int), St a, St b] w fun en w' => en = made (twoRes op a b) ∧ Below w.heap.size w w' := by
 by_cases hd : Tm.deep a = 0
 · have HR : Hid (twoRes op a b = ([], 10)) := by apply hid; unfold twoRes; rw [if_pos (Or.inl hd)]
   have HD := hid hd
   clear hd
   go_enter Tryz.func71, Tryz.ntmps71
   go_wp2_with fail
   refine (rright_any a _).mono ?_
   rintro e w1 ⟨rfl, hb⟩
   have HB := hid hb
   clear hb
   rw [HD.out]
   go_wp2_with fail
   go_ret2
   exact ⟨by rw [HR.out]; rfl, HB.out⟩
 · have HD : Hid ((Tm.deep a != 0) = true) := by apply hid; simpa using hd
   have HL : Hid (a.length ≤ 16384) := hid (Tm.deep_is hd).2
   by_cases hd2 : Tm.deep b = 0
   · have HR : Hid (twoRes op a b = ([], 10)) := by apply hid; unfold twoRes; rw [if_pos (Or.inr hd2)]
     have HD2 := hid hd2
     clear hd hd2
     go_enter Tryz.func71, Tryz.ntmps71
     go_wp2_with fail
     refine (rright_any a _).mono ?_
     rintro e w1 ⟨rfl, hb⟩
     have HB := hid hb
     clear hb
     rw [HD.out]
     go_wp2_with fail
     refine (rright_any b _).mono ?_
     rintro e w2 ⟨rfl, hb⟩
     have HB2 := hid (HB.out.trans (hb.mono HB.out.size))
     clear hb
     rw [HD2.out]
     go_wp2_with fail
     go_ret2
     exact ⟨by rw [HR.out]; rfl, HB2.out⟩
   · have HR : Hid (twoRes op a b = madeRes (op :: (a ++ b))) := by apply hid; unfold twoRes; rw [if_neg (by simp [hd, hd2])]
     have HD2 : Hid ((Tm.deep b != 0) = true) := by apply hid; simpa using hd2
     have HL2 : Hid (b.length ≤ 16384) := hid (Tm.deep_is hd2).2
     clear hd hd2
     go_enter Tryz.func71, Tryz.ntmps71
     go_wp2_with fail
     refine (rright_any a _).mono ?_
     rintro e w1 ⟨rfl, hb⟩
     have HB := hid hb
     clear hb
     rw [HD.out]
     go_wp2_with fail
     refine (rright_any b _).mono ?_
     rintro e w2 ⟨rfl, hb⟩
     have HB2 := hid (HB.out.trans (hb.mono HB.out.size))
     clear hb
     rw [HD2.out]
     have hcv := conv_one w2 op
     have hln : ¬ 9223372036854775807 < 1 + a.length := by have := HL.out; omega
     have hln2 : ¬ 9223372036854775807 < 1 + a.length + b.length := by have := HL.out; have := HL2.out; omega
     go_wp2_with fail
     rw [st_two]
     refine (rmade_any (op :: (a ++ b)) _).mono ?_
     rintro e w3 ⟨rfl, hb⟩
     have HB3 := hid (HB2.out.trans ((below_alloc_self' w2 (.cells #[.int .u8 (op.toNat : Int)] 5)).mono HB2.out.size |>.trans (hb.mono (by have := HB2.out.size; simp; omega))))
     clear hb hcv hln hln2
     go_wp2_with fail
     go_ret2
     exact ⟨by rw [HR.out]; rfl, HB3.out⟩
end Go.Proofs.YtkifchjpgdmcoaaGreatDoor

/- Names, texts and tuples, as the document makes them. -/
namespace Go.Proofs.YtkifchjpgdmcoaaGreatDoor
open Go.RowKit
theorem dec_small {n : Nat} (h : n < 10) : dec n = [UInt8.ofNat (48 + n % 10)] := by rw [dec, Lib.decDigits_one h, Nat.mod_eq_of_lt h]
theorem dec_big {n : Nat} (h : ¬ n < 10) : dec n = dec (n / 10) ++ [UInt8.ofNat (48 + n % 10)] := by rw [dec, Lib.decDigits, dif_neg h]
theorem conv_digit (n : Nat) (w : World) : (convert 90 9 (.slice (some ⟨w.heap.size, 0, none⟩) 1 1)).run Tryz.prog (w.alloc (.cells #[.int .u8 (48 + (n : Int) % 10)] 5)) = .ok (St [UInt8.ofNat (48 + n % 10)]) (w.alloc (.cells #[.int .u8 (48 + (n : Int) % 10)] 5)) := by
 refine run_convert_bytes_back (P := Tryz.prog) _ 90 9 5 ⟨w.heap.size, 0, none⟩ 1 [UInt8.ofNat (48 + n % 10)] Tryz.underlying90 Tryz.underlying5 Tryz.underlying9 (fun j hj => ?_)
 obtain rfl : j = 0 := by simpa using hj
 have e : (⟨w.heap.size, 0, none⟩ : Addr).add 0 = ⟨w.heap.size, 0, none⟩ := by simp [Addr.add]
 rw [e, World.cell?_alloc_mark]
 have h2 : ((UInt8.ofNat (48 + n % 10)).toNat : Int) = 48 + (n : Int) % 10 := by simp; omega
 simp only [List.getElem_cons_zero]
 rw [h2]
 rfl
set_option maxHeartbeats 2000000 in
theorem rdig_any (n : Nat) : n < 18446744073709551616 → ∀ w : World, Calls Tryz.prog 105 #[.int .u64 (n : Int)] w fun en w' => en = .returned (St (dec n)) ∧ Below w.heap.size w w' := by
 induction n using Nat.strongRecOn with
 | ind n ih =>
   intro hn w
   have hcv := conv_digit n w
   have hw1 : IntKind.u64.wrap (48 + (n : Int) % 10) = 48 + (n : Int) % 10 := by rw [IntKind.wrap_u64]; omega
   have hw2 : IntKind.u8.wrap (48 + (n : Int) % 10) = 48 + (n : Int) % 10 := by rw [IntKind.wrap_u8]; omega
   by_cases h9 : n < 10
   · have h9' : ¬ (9 : Int) < (n : Int) := by omega
     have HD := hid (dec_small h9)
     clear ih hn h9
     generalize UInt8.ofNat (48 + n % 10) = c at HD hcv
     go_enter Tryz.func105, Tryz.ntmps105
     go_wp2_with fail
     go_ret
     exact ⟨by rw [HD.out]; rfl, (Below.refl _ _).alloc (Nat.le_refl _) _⟩
   · have h9' : (9 : Int) < (n : Int) := by omega
     have HD := hid (dec_big h9)
     have HI : Hid (∀ W : World, Calls Tryz.prog 105 #[.int .u64 ((n : Int) / 10)] W fun en w' => en = .returned (St (dec (n / 10))) ∧ Below W.heap.size W w') := hid (ih (n / 10) (by omega) (by omega))
     have HL := hid (dec_len (n / 10) (by omega))
     have hw3 : IntKind.u64.wrap ((n : Int) / 10) = (n : Int) / 10 := by rw [IntKind.wrap_u64]; omega
     clear ih hn h9
     generalize dec (n / 10) = D at HD HI HL
     generalize UInt8.ofNat (48 + n % 10) = c at HD hcv
     have hsz : (⟨D.toArray⟩ : ByteArray).size ≤ 20 := by rw [st_size]; exact HL.out
     have ha : ∀ W, (Op.stringOp .add (⟨D.toArray⟩ : ByteArray) ⟨([c] : Bs).toArray⟩).run Tryz.prog W = .ok (.string ⟨(D ++ [c]).toArray⟩) W := fun W => by
       rw [run_string_add_sum W _ _ (by show (⟨D.toArray⟩ : ByteArray).size + 1 ≤ _; omega), st_app]
     go_enter Tryz.func105, Tryz.ntmps105
     go_wp2_with fail
     refine (HI.out _).mono ?_
     rintro e w1 ⟨rfl, hb⟩
     have HB := hid (((Below.refl w.heap.size w).alloc (Nat.le_refl _) _).trans (hb.mono (by simp)))
     clear hb
     go_wp2_with fail
     go_ret
     exact ⟨by rw [HD.out]; rfl, HB.out⟩
theorem bres_none (op : UInt8) (head : Bs) (h : head.length ≤ 16000) : bRes op head [] = (op :: head, 0) := by
 unfold bRes; simp [bDeep, bSize]; omega
set_option maxHeartbeats 1000000 in
theorem rname_any (n : Int) (h1 : -9223372036854775808 ≤ n) (hn : n ≤ 9223372036854775807) (w : World) : Calls Tryz.prog 88 #[.int .i64 n] w fun en w' => en = made (nameRes n) ∧ Below w.heap.size w w' := by
 by_cases h0 : n < 0
 · have HR : Hid (nameRes n = ([], 2)) := by apply hid; unfold nameRes; rw [if_pos h0]
   go_enter Tryz.func88, Tryz.ntmps88
   go_wp2_with fail
   go_ret2
   exact ⟨by rw [HR.out]; rfl, Below.refl _ _⟩
 · obtain ⟨m, rfl⟩ : ∃ m : Nat, n = (m : Int) := ⟨n.toNat, by omega⟩
   have HD := hid (dec_len m (by omega))
   have HR : Hid (nameRes (m : Int) = (110 :: (dec m ++ [59]), 0)) := by
     apply hid; unfold nameRes; rw [if_neg h0, Int.toNat_natCast, bres_none _ _ (by have := HD.out; simp; omega)]
   have HF : Hid (∀ W : World, Calls Tryz.prog 105 #[.int .u64 (m : Int)] W fun e w' => e = .returned (St (dec m)) ∧ Below W.heap.size W w') := hid (rdig_any m (by omega))
   have hw : IntKind.u64.wrap (m : Int) = (m : Int) := by rw [IntKind.wrap_u64]; omega
   generalize dec m = D at HR HD HF
   have hsz : (⟨D.toArray⟩ : ByteArray).size ≤ 20 := by rw [st_size]; exact HD.out
   have ha1 : ∀ W, (Op.stringOp .add (⟨#[110]⟩ : ByteArray) ⟨D.toArray⟩).run Tryz.prog W = .ok (.string ⟨(110 :: D).toArray⟩) W := fun W => by
     rw [run_string_add_sum W _ _ (by show 1 + (⟨D.toArray⟩ : ByteArray).size ≤ _; omega)]; exact congrArg (fun z => Result.ok (Value.string z) W) (st_app [110] D)
   have ha2 : ∀ W, (Op.stringOp .add (⟨(110 :: D).toArray⟩ : ByteArray) ⟨#[59]⟩).run Tryz.prog W = .ok (.string ⟨(110 :: (D ++ [59])).toArray⟩) W := fun W => by
     rw [run_string_add_sum W _ _ (by rw [st_size]; have := HD.out; show (D.length + 1) + 1 ≤ _; omega)]; exact congrArg (fun z => Result.ok (Value.string z) W) (st_app (110 :: D) [59])
   go_enter Tryz.func88, Tryz.ntmps88
   go_wp2_with fail
   refine (HF.out _).mono ?_
   rintro e w1 ⟨rfl, hb⟩
   have HB := hid hb
   clear hb
   go_wp2_with fail
   go_ret2
   exact ⟨by rw [HR.out]; rfl, HB.out⟩
set_option maxHeartbeats 1000000 in
theorem rtext_any (s : Bs) (w : World) (hs : s.length ≤ 20000) : Calls Tryz.prog 87 #[St s] w fun en w' => en = made (textRes s) ∧ Below w.heap.size w w' := by
 have hsz0 : (⟨s.toArray⟩ : ByteArray).size = s.length := st_size s
 by_cases h0 : 4096 < s.length
 · have HR : Hid (textRes s = ([], 3)) := by apply hid; unfold textRes; rw [if_pos h0]
   have h0' : (4096 : Int) < (s.length : Int) := by omega
   go_enter Tryz.func87, Tryz.ntmps87
   go_wp2_with fail
   go_ret2
   exact ⟨by rw [HR.out]; rfl, Below.refl _ _⟩
 · have h0' : ¬ (4096 : Int) < (s.length : Int) := by omega
   have HD := hid (dec_len s.length (by omega))
   have HR : Hid (textRes s = (116 :: (dec s.length ++ 58 :: s), 0)) := by
     apply hid; unfold textRes; rw [if_neg h0, bres_none _ _ (by have := HD.out; simp; omega), List.append_assoc]; rfl
   have HF : Hid (∀ W : World, Calls Tryz.prog 105 #[.int .u64 (s.length : Int)] W fun e w' => e = .returned (St (dec s.length)) ∧ Below W.heap.size W w') := hid (rdig_any s.length (by omega))
   have hw : IntKind.u64.wrap (s.length : Int) = (s.length : Int) := by rw [IntKind.wrap_u64]; omega
   have HS := hid h0
   clear h0 hs
   generalize dec s.length = D at HR HD HF
   have ha1 : ∀ W, (Op.stringOp .add (⟨#[116]⟩ : ByteArray) ⟨D.toArray⟩).run Tryz.prog W = .ok (.string ⟨(116 :: D).toArray⟩) W := fun W => by
     rw [run_string_add_sum W _ _ (by rw [st_size]; have := HD.out; show 1 + D.length ≤ _; omega)]; exact congrArg (fun z => Result.ok (Value.string z) W) (st_app [116] D)
   have ha2 : ∀ W, (Op.stringOp .add (⟨(116 :: D).toArray⟩ : ByteArray) ⟨#[58]⟩).run Tryz.prog W = .ok (.string ⟨(116 :: (D ++ [58])).toArray⟩) W := fun W => by
     rw [run_string_add_sum W _ _ (by rw [st_size]; have := HD.out; show (D.length + 1) + 1 ≤ _; omega)]; exact congrArg (fun z => Result.ok (Value.string z) W) (st_app (116 :: D) [58])
   have ha3 : ∀ W, (Op.stringOp .add (⟨(116 :: (D ++ [58])).toArray⟩ : ByteArray) ⟨s.toArray⟩).run Tryz.prog W = .ok (.string ⟨(116 :: (D ++ 58 :: s)).toArray⟩) W := fun W => by
     rw [run_string_add_sum W _ _ (by rw [st_size, st_size]; have := HD.out; have := HS.out; simp; omega)]; exact congrArg (fun z => Result.ok (Value.string z) W) ((st_app (116 :: (D ++ [58])) s).trans (by simp))
   go_enter Tryz.func87, Tryz.ntmps87
   go_wp2_with fail
   refine (HF.out _).mono ?_
   rintro e w1 ⟨rfl, hb⟩
   have HB := hid hb
   clear hb
   go_wp2_with fail
   go_ret2
   exact ⟨by rw [HR.out]; rfl, HB.out⟩
end Go.Proofs.YtkifchjpgdmcoaaGreatDoor

/- A tuple, as the document makes it. -/
namespace Go.Proofs.YtkifchjpgdmcoaaGreatDoor
open Go.RowKit
set_option maxHeartbeats 2000000 in
theorem rtuple_any (ks : List Bs) (kv : Value) (w : World) (hk : Texts w kv ks) (hn : ks.length ≤ 40) : Calls Tryz.prog 89 #[kv] w fun en w' => en = made (tupRes ks) ∧ Below w.heap.size w w' := by
 obtain ⟨ao, cap, rfl, hcell⟩ := hk
 have HC := hid hcell
 clear hcell
 by_cases h0 : 32 < ks.length
 · have HR : Hid (tupRes ks = ([], 3)) := by apply hid; unfold tupRes; rw [if_pos h0]
   have h0' : (32 : Int) < (ks.length : Int) := by omega
   go_enter Tryz.func89, Tryz.ntmps89
   go_wp2_with fail
   go_ret2
   exact ⟨by rw [HR.out]; rfl, Below.refl _ _⟩
 · have h0' : ¬ (32 : Int) < (ks.length : Int) := by omega
   have HB : Hid (∀ i (h : i < ks.length), Tm.deep ks[i] = 0 → tupRes ks = ([], 10)) := by
     apply hid; intro i h hz; unfold tupRes; rw [if_neg h0]; exact tuple_bad _ _ ks i h hz
   have HG : Hid ((∀ k ∈ ks, Tm.deep k ≠ 0) → madeRes (84 :: (dec ks.length ++ [58] ++ ks.flatten)) = tupRes ks) := by
     apply hid; intro h; unfold tupRes madeRes; rw [if_neg h0]; exact tuple_res ks (by omega) h
   have HD := hid (dec_len ks.length (by omega))
   have HF : Hid (∀ W : World, Calls Tryz.prog 105 #[.int .u64 (ks.length : Int)] W fun e w' => e = .returned (St (dec ks.length)) ∧ Below W.heap.size W w') := hid (rdig_any ks.length (by omega))
   have hw : IntKind.u64.wrap (ks.length : Int) = (ks.length : Int) := by rw [IntKind.wrap_u64]; omega
   generalize dec ks.length = D at HG HD HF
   have ha1 : ∀ W, (Op.stringOp .add (⟨#[84]⟩ : ByteArray) ⟨D.toArray⟩).run Tryz.prog W = .ok (.string ⟨(84 :: D).toArray⟩) W := fun W => by
     rw [run_string_add_sum W _ _ (by rw [st_size]; have := HD.out; show 1 + D.length ≤ _; omega)]; exact congrArg (fun z => Result.ok (Value.string z) W) (st_app [84] D)
   have ha2 : ∀ W, (Op.stringOp .add (⟨(84 :: D).toArray⟩ : ByteArray) ⟨#[58]⟩).run Tryz.prog W = .ok (.string ⟨(84 :: (D ++ [58])).toArray⟩) W := fun W => by
     rw [run_string_add_sum W _ _ (by rw [st_size]; have := HD.out; show (D.length + 1) + 1 ≤ _; omega)]; exact congrArg (fun z => Result.ok (Value.string z) W) (st_app (84 :: D) [58])
   go_enter Tryz.func89, Tryz.ntmps89
   go_wp2_with fail
   refine (HF.out _).mono ?_
   rintro e w1 ⟨rfl, hb⟩
   have HB1 := hid hb
   clear hb
   go_wp2_with fail
   clear ha1 ha2 hw
   go_loopg [4, 5] ks.length (fun g sv iv wr => ∃ (i : Nat) (F : Bs), i ≤ ks.length ∧ g = ks.length - i ∧ iv = .int .i64 i ∧ sv = St F ∧ F = 84 :: (D ++ [58] ++ (ks.take i).flatten) ∧ F.length ≤ 100 + 16384 * i ∧ (∀ k ∈ ks.take i, Tm.deep k ≠ 0) ∧ Below w.heap.size w wr)
   case atStart =>
     refine ⟨0, 84 :: (D ++ [58]), Nat.zero_le _, rfl, rfl, by first | rfl | simp, by simp, by have := HD.out; simp; omega, by simp, HB1.out⟩
   case round =>
     obtain ⟨i, F, hi, rfl, rfl, rfl, hF, hFl, hall, hbl⟩ := hrel
     have HFE := hid hF
     have HA := hid hall
     have HL := hid hbl
     clear hF hall
     by_cases hlt : i < ks.length
     · obtain ⟨g, o, rfl, hg, hc⟩ := HC.out (by intro e; rw [e] at hlt; simp at hlt)
       have hci : wr.cell? ⟨g, o + i, none⟩ = some (St ks[i]) := by
         rw [hbl.cell (p := ⟨g, o + i, none⟩) hg]; exact hc i hlt
       have HCI := hid (fun (W : World) (hB : Below wr.heap.size wr W) => (hB.cell (p := ⟨g, o + i, none⟩) (Nat.lt_of_lt_of_le hg hbl.size)).trans hci)
       clear hc hbl
       have hlt' : (i : Int) < (ks.length : Int) := by omega
       have HTS := hid (take_succ' ks i hlt)
       have HBi := hid (HB.out i hlt)
       have HE := hid (rright_any ks[i])
       have HLE : Hid (Tm.deep ks[i] ≠ 0 → ks[i].length ≤ 16384) := hid (fun h => (Tm.deep_is h).2)
       generalize ks[i] = k at *
       go_wp2_with fail
       refine (HE.out _).mono ?_
       rintro e w2 ⟨rfl, hb⟩
       have hci2 := HCI.out _ hb
       have HL1 := hid (HL.out.trans (hb.mono HL.out.size))
       clear hb hci
       by_cases hz : Tm.deep k = 0
       · have HR := hid (HBi.out hz)
         rw [show (Tm.deep k != 0) = false by simp [hz]]
         clear hz
         go_wp2_with fail
         go_ret2
         exact ⟨by rw [HR.out]; rfl, HL1.out⟩
       · have hkl := HLE.out hz
         rw [show (Tm.deep k != 0) = true by simp [hz]]
         have HZ := hid hz
         clear hz
         have ha : ∀ W, (Op.stringOp .add (⟨F.toArray⟩ : ByteArray) ⟨k.toArray⟩).run Tryz.prog W = .ok (.string ⟨(F ++ k).toArray⟩) W := fun W => by
           rw [run_string_add_sum W _ _ (by rw [st_size, st_size]; omega), st_app]
         go_wp2_with fail
         go_roundg (ks.length - (i + 1))
         case measure => omega
         case rel =>
           refine ⟨i + 1, F ++ k, by omega, rfl, by simp, rfl, ?_, by simp; omega, ?_, HL1.out⟩
           · rw [HTS.out, flat_snoc, HFE.out]; simp
           · intro x hx
             rw [HTS.out] at hx
             rcases List.mem_append.1 hx with hx | hx
             · exact HA.out x hx
             · have : x = k := by simpa using hx
               rw [this]; exact HZ.out
     · have hik : i = ks.length := by omega
       subst hik
       have HTL : Hid (ks.take ks.length = ks) := by apply hid; simp
       have HR : Hid (madeRes F = tupRes ks) := by
         apply hid
         rw [HFE.out, HTL.out]
         exact HG.out (fun k hk => HA.out k (by rw [HTL.out]; exact hk))
       have HM := hid (rmade_any F)
       clear hbl
       go_wp2_with fail
       refine (HM.out _).mono ?_
       rintro e w2 ⟨rfl, hb⟩
       have HL1 := hid (HL.out.trans (hb.mono HL.out.size))
       clear hb
       rw [HR.out]
       go_wp2_with fail
       go_ret2
       exact ⟨rfl, HL1.out⟩
end Go.Proofs.YtkifchjpgdmcoaaGreatDoor
