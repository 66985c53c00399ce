import Derived.Test.YtkifchjpgdmcoaaGreatDoorFrAll
import Derived.Test.YtkifchjpgdmcoaaGreatDoorMath
import Derived.Test.YtkifchjpgdmcoaaGreatDoorInAll
/- What the document's number does. -/
namespace Go.Proofs.YtkifchjpgdmcoaaGreatDoor
open Go.RowKit
theorem lead_zero {e y : UInt8} {l : Bs} (h1 : (48 : UInt8) ≠ e) (h2 : y ≠ e) : Tm.num e (48 :: y :: l) = none := by
 unfold Tm.num
 rw [Tm.numGo, if_neg h1, if_pos (by decide), Tm.numGo, if_neg h2]
 split
 · rfl
 · rename_i n r hg
   split at hg
   · have := Tm.numGo_len hg
     rw [if_pos]
     right
     exact ⟨by simp; omega, rfl⟩
   · cases hg
def Dig (s : ByteArray) (a k m : Nat) : Prop := ∀ ha : a < s.size, (k = a → m = 0) ∧ (m = 0 → a < k → k = a + 1 ∧ s[a] = 48) ∧ (m ≠ 0 → s[a] ≠ 48)
set_option maxHeartbeats 2000000 in
theorem rnumber_any (s : ByteArray) (a : Nat) (ei : Int) (e : UInt8) (he : ei = e.toNat) (h57 : 57 < e.toNat) (hs : s.size ≤ 20000) (w : World) :
   Calls Tryz.prog 108 #[.string s, .int .i64 (a : Int), .int .u8 ei] w fun en w' => w' = w ∧
     Ends (Tm.num e (rest s a)) (fun x => en = .returned (.tuple #[.int .u64 (x.1 : Int), .int .i64 ((s.size - x.2.length : Nat) : Int)])) (en = .returned (.tuple #[.int .u64 0, .int .i64 (-1)])) := by
 subst he
 have h57' : (57 : Int) < (e.toNat : Int) := by omega
 by_cases has : a < s.size
 · go_enter Tryz.func108, Tryz.ntmps108
   go_wp2_with fail
   go_loop [8, 9] (fun nv iv => ∃ k m : Nat, a ≤ k ∧ k ≤ s.size ∧ iv = .int .i64 k ∧ nv = .int .u64 m ∧ m ≤ 9223372036854775807 ∧ Dig s a k m ∧ Tm.numGo e 0 (rest s a) = Tm.numGo e m (rest s k)) (fun _ iv => s.size - (intOf iv).toNat)
   case atStart => exact ⟨a, 0, Nat.le_refl _, by omega, rfl, rfl, by omega, fun _ => ⟨fun _ => rfl, fun _ h => by omega, fun h => absurd rfl h⟩, rfl⟩
   case round =>
     obtain ⟨k, m, hak, hk, rfl, rfl, hm, hD, hN⟩ := hrel
     have HD := hid hD
     have HN := hid hN
     clear hD hN
     by_cases hlt : k < s.size
     · have hlt' : (k : Int) < (s.size : Int) := by omega
       have hc256 := s[k].toNat_lt
       by_cases hc : s[k] = e
       · have hE := hid (num_end hlt hak hc HN.out)
         have hceq : ((s[k].toNat : Int) == (e.toNat : Int)) = true := by simp [hc]
         have hcv : (57 : Int) < (s[k].toNat : Int) := by rw [hc]; omega
         clear hc
         by_cases hka : a < k
         · have hka' : (a : Int) < (k : Int) := by omega
           have hd := HD.out has
           have HE : Hid (Tm.num e (rest s a) = some (m, rest s (k + 1))) := by
             apply hid
             rw [hE.out, if_neg]
             rintro (h | ⟨h1, h2⟩)
             · omega
             · by_cases hm0 : m = 0
               · have := (hd.2.1 hm0 hka).1; omega
               · exact hd.2.2 hm0 h2
           clear hd
           go_wp2_with fail
           go_ret2
           refine ⟨rfl, ends_some HE.out ?_⟩
           simp only [rest_len]
           rw [show s.size - (s.size - (k + 1)) = k + 1 by omega]
           simp
         · have hka' : ¬ (a : Int) < (k : Int) := by omega
           have HE : Hid (Tm.num e (rest s a) = none) := by apply hid; rw [hE.out, if_pos (Or.inl (by omega))]
           have hlo : ¬ (s[k].toNat : Int) < 48 := by omega
           go_wp2_with fail
           go_ret2
           exact ⟨rfl, ends_none HE.out rfl⟩
       · have hceq : ((s[k].toNat : Int) == (e.toNat : Int)) = false := by simp; intro h; exact hc (UInt8.toNat_inj.1 (by omega))
         have HC := hid hc
         clear hc
         by_cases hlo : s[k].toNat < 48
         · have hlo' : (s[k].toNat : Int) < 48 := by omega
           have HE : Hid (Tm.num e (rest s a) = none) := by
             apply hid
             refine num_none HN.out ?_
             rw [rest_cons hlt, Tm.numGo, if_neg HC.out, if_neg (by omega)]
           go_wp2_with fail
           go_ret2
           exact ⟨rfl, ends_none HE.out rfl⟩
         · have hlo' : ¬ (s[k].toNat : Int) < 48 := by omega
           by_cases hhi : 57 < s[k].toNat
           · have hhi' : (57 : Int) < (s[k].toNat : Int) := by omega
             have HE : Hid (Tm.num e (rest s a) = none) := by
               apply hid
               refine num_none HN.out ?_
               rw [rest_cons hlt, Tm.numGo, if_neg HC.out, if_neg (by omega)]
             go_wp2_with fail
             go_ret2
             exact ⟨rfl, ends_none HE.out rfl⟩
           · have hhi' : ¬ (57 : Int) < (s[k].toNat : Int) := by omega
             by_cases hz : m = 0 ∧ a < k
             · have hz1 : ((m : Int) == 0) = true := by simp [hz.1]
               have hz2 : (a : Int) < (k : Int) := by omega
               have HE : Hid (Tm.num e (rest s a) = none) := by
                 apply hid
                 obtain ⟨h1, h2⟩ := (HD.out has).2.1 hz.1 hz.2
                 subst h1
                 rw [rest_cons has, h2, rest_cons hlt]
                 refine lead_zero (fun h => ?_) HC.out
                 rw [← h] at h57
                 simp at h57
               clear hz
               go_wp2_with fail
               go_ret2
               exact ⟨rfl, ends_none HE.out rfl⟩
             · have hguard : ((m : Int) == 0) = false ∨ ¬ (a : Int) < (k : Int) := by
                 by_cases h : m = 0
                 · right; have : ¬ a < k := fun h2 => hz ⟨h, h2⟩; omega
                 · left; simpa using h
               have hdd : ∀ x : Nat, x = 10 * m + (s[k].toNat - 48) → Dig s a (k + 1) x := by
                 intro x hx ha
                 have hd := HD.out ha
                 refine ⟨fun h => by omega, fun h0 _ => ?_, fun hn hs48 => ?_⟩
                 · have hm0 : m = 0 := by omega
                   have hka : k = a := by
                     apply Classical.byContradiction
                     intro hne
                     exact hz ⟨hm0, by omega⟩
                   subst hka
                   refine ⟨rfl, ?_⟩
                   apply UInt8.toNat_inj.1
                   simp
                   omega
                 · by_cases hm0 : m = 0
                   · have hka : k = a := by
                       apply Classical.byContradiction
                       intro hne
                       exact hz ⟨hm0, by omega⟩
                     subst hka
                     rw [hs48] at hx
                     simp at hx
                     omega
                   · exact hd.2.2 hm0 hs48
               have HDD := hid hdd
               clear hdd hz
               rcases hguard with hg | hg
               · go_wp2_with fail
                 · have hov : (9223372036854775807 - ((s[k].toNat : Int) - 48)) / 10 < (m : Int) := by assumption
                   go_ret2
                   refine ⟨rfl, ends_none (num_none HN.out ?_) rfl⟩
                   rw [rest_cons hlt, Tm.numGo, if_neg HC.out, if_neg (by omega)]
                 · have hov : (m : Int) ≤ (9223372036854775807 - ((s[k].toNat : Int) - 48)) / 10 := by assumption
                   have hgo : Tm.numGo e m (rest s k) = Tm.numGo e (10 * m + (s[k].toNat - 48)) (rest s (k + 1)) := by rw [rest_cons hlt, Tm.numGo, if_neg HC.out, if_pos (by omega)]
                   go_round
                   case rel => exact ⟨k + 1, 10 * m + (s[k].toNat - 48), by omega, by omega, by go_num, congrArg (Value.int .u64) (by omega), by omega, HDD.out _ rfl, HN.out.trans hgo⟩
                   case measure => simp [intOf]; omega
               · have hz1 : ((m : Int) == 0) = true := by have := (HD.out has).1 (by omega); simp [this]
                 go_wp2_with fail
                 · have hov : (9223372036854775807 - ((s[k].toNat : Int) - 48)) / 10 < (m : Int) := by assumption
                   go_ret2
                   refine ⟨rfl, ends_none (num_none HN.out ?_) rfl⟩
                   rw [rest_cons hlt, Tm.numGo, if_neg HC.out, if_neg (by omega)]
                 · have hov : (m : Int) ≤ (9223372036854775807 - ((s[k].toNat : Int) - 48)) / 10 := by assumption
                   have hgo : Tm.numGo e m (rest s k) = Tm.numGo e (10 * m + (s[k].toNat - 48)) (rest s (k + 1)) := by rw [rest_cons hlt, Tm.numGo, if_neg HC.out, if_pos (by omega)]
                   go_round
                   case rel => exact ⟨k + 1, 10 * m + (s[k].toNat - 48), by omega, by omega, by go_num, congrArg (Value.int .u64) (by omega), by omega, HDD.out _ rfl, HN.out.trans hgo⟩
                   case measure => simp [intOf]; omega
     · have hlt' : ¬ (k : Int) < (s.size : Int) := by omega
       have HE : Hid (Tm.num e (rest s a) = none) := num_out (by omega) HN.out
       go_wp2_with fail
       go_ret2
       exact ⟨rfl, ends_none HE.out rfl⟩
 · have hlt' : ¬ (a : Int) < (s.size : Int) := by omega
   have HE : Hid (Tm.num e (rest s a) = none) := by apply hid; rw [rest_nil (by omega)]; rfl
   go_enter Tryz.func108, Tryz.ntmps108
   go_wp2_with fail
   refine wp_loop_rounds 1 ?_
   rw [rounds_succ]
   go_wp2_with fail
   go_ret2
   exact ⟨rfl, ends_none HE.out rfl⟩
end Go.Proofs.YtkifchjpgdmcoaaGreatDoor

/- How the document reads a term: its parts one behind the other, then whether they fit. No program in it. -/
namespace Go.Proofs.YtkifchjpgdmcoaaGreatDoor.Tm
def partsN (c : UInt8) : Option Nat :=
 if c = 80 ∨ c = 72 then some 1
 else if c = 83 ∨ c = 66 ∨ c = 88 ∨ c = 68 ∨ c = 86 ∨ c = 87 ∨ c = 75 ∨ c = 76 then some 2 else none
def fitB (c : UInt8) (ks : List Bs) : Bool :=
 if c = 80 then (match ks with | [p] => !(p.head? == some 86 || p.head? == some 75) | _ => true)
 else if c = 88 then (match ks with | [p, q] => leB p q | _ => true)
 else if c = 87 then (match ks with | [p, q] => isPk p.head? && isPk q.head? | _ => true)
 else if c = 76 then (match ks with | [p, _] => isPk p.head? | _ => true)
 else true
def headB (c : UInt8) (l : Bs) : Option (Nat × Bs) :=
 if c = 84 then (match num 58 l with | none => none | some (k, r) => if k ≤ 32 then some (k, r) else none)
 else (match partsN c with | none => none | some k => some (k, l))
def bodyB (n : Nat) (c : UInt8) (l : Bs) : Option (Nat × Bs) :=
 match headB c l with
 | none => none
 | some (k, r) => match manyA (rd n) k 1 r with
   | none => none
   | some (d, r') => if fitB c (kidsN (rd n) k r) then some (d, r') else none
theorem many_one (f : Bs → Option (Nat × Bs)) (l : Bs) : manyA f 1 1 l = oneA f l := by
 rw [manyA]; unfold oneA
 cases f l with
 | none => rfl
 | some x =>
   obtain ⟨d, r⟩ := x
   simp only [manyA]
   rw [show max 1 (d + 1) = d + 1 by omega]
theorem many_two (f : Bs → Option (Nat × Bs)) (l : Bs) : manyA f 2 1 l = two2 f l := by
 rw [manyA]; unfold two2 twoA
 cases f l with
 | none => rfl
 | some x =>
   obtain ⟨d, r⟩ := x
   simp only
   rw [manyA]
   cases f r with
   | none => rfl
   | some y =>
     obtain ⟨e, r'⟩ := y
     simp only [manyA]
     rw [show max (max 1 (d + 1)) (e + 1) = max d e + 1 by omega]
theorem kidsN_one (f : Bs → Option (Nat × Bs)) (l : Bs) : kidsN f 1 l = kids1 f l := by
 rw [kidsN]; unfold kids1
 cases f l with
 | none => rfl
 | some x => rfl
theorem kidsN_two {f : Bs → Option (Nat × Bs)} {l : Bs} {d : Nat} {r r' : Bs} (h : twoA f l = some (d, r, r')) : kidsN f 2 l = [used l r, used r r'] := by
 unfold twoA at h
 cases h1 : f l with
 | none => rw [h1] at h; simp at h
 | some x =>
   obtain ⟨d1, r1⟩ := x
   rw [h1] at h
   simp only at h
   cases h2 : f r1 with
   | none => rw [h2] at h; simp at h
   | some y =>
     obtain ⟨d2, r2⟩ := y
     rw [h2] at h
     simp at h
     obtain ⟨_, rfl, rfl⟩ := h
     rw [kidsN, h1]
     simp only
     rw [kidsN, h2]
     rfl
theorem used_head {l r : Bs} (h : r.length < l.length) : (used l r).head? = l.head? := by
 cases l with
 | nil => simp at h
 | cons a t =>
   unfold used
   simp at h
   rw [show (a :: t).length - r.length = (t.length - r.length) + 1 by simp; omega]
   rfl
theorem rd_body (n : Nat) (c : UInt8) (l : Bs) (h1 : c ≠ 110) (h2 : c ≠ 116) : rd (n + 1) (c :: l) = bodyB n c l := by
 rw [rd_cons, if_neg h1, if_neg h2]
 unfold bodyB headB
 by_cases c3 : c = 84
 · subst c3
   rw [if_pos rfl, if_pos rfl]
   unfold tupleA
   cases num 58 l with
   | none => rfl
   | some x =>
     obtain ⟨k, r⟩ := x
     simp only
     split
     · simp only
       cases manyA (rd n) k 1 r with
       | none => rfl
       | some y => rfl
     · rfl
 · rw [if_neg c3, if_neg c3]
   by_cases c4 : c = 80
   · subst c4
     rw [if_pos rfl]
     show _ = (match manyA (rd n) 1 1 l with | none => none | some (d, r') => if fitB 80 (kidsN (rd n) 1 l) then some (d, r') else none)
     rw [many_one, kidsN_one]
     unfold pubA oneA kids1
     cases hr : rd n l with
     | none => rfl
     | some x =>
       obtain ⟨d, r⟩ := x
       have hlt := (rd_len hr).1
       simp only
       show _ = if (!((used l r).head? == some 86 || (used l r).head? == some 75)) = true then _ else _
       rw [used_head hlt]
       by_cases hh : l.head? = some 86 ∨ l.head? = some 75
       · rw [if_pos hh, if_neg]
         rcases hh with hh | hh <;> rw [hh] <;> decide
       · rw [if_neg hh, if_pos]
         have g1 : (l.head? == some 86) = false := by simpa using fun e => hh (Or.inl e)
         have g2 : (l.head? == some 75) = false := by simpa using fun e => hh (Or.inr e)
         rw [g1, g2]; rfl
   · rw [if_neg c4]
     by_cases c5 : c = 72
     · subst c5
       rw [if_pos rfl]
       show _ = (match manyA (rd n) 1 1 l with | none => none | some (d, r') => if fitB 72 (kidsN (rd n) 1 l) then some (d, r') else none)
       rw [many_one]
       cases oneA (rd n) l with
       | none => rfl
       | some x => rfl
     · rw [if_neg c5]
       by_cases c6 : isTwo c = true
       · rw [if_pos c6]
         have hp : partsN c = some 2 := by
           unfold partsN
           rw [if_neg (by rintro (h | h) <;> contradiction), if_pos]
           simp [isTwo] at c6
           rcases c6 with (((h | h) | h) | h) | h <;> simp [h]
         have hf : ∀ ks, fitB c ks = true := by
           intro ks
           unfold fitB
           rw [if_neg c4, if_neg (by intro e; subst e; simp [isTwo] at c6), if_neg (by intro e; subst e; simp [isTwo] at c6), if_neg (by intro e; subst e; simp [isTwo] at c6)]
         rw [hp]
         show _ = (match manyA (rd n) 2 1 l with | none => none | some (d, r') => if fitB c (kidsN (rd n) 2 l) then some (d, r') else none)
         rw [many_two, hf]
         cases two2 (rd n) l with
         | none => rfl
         | some x => rfl
       · rw [if_neg c6]
         have key : ∀ (g : Bs → Bs → Bs → Bool), (∀ r r' d, twoA (rd n) l = some (d, r, r') → fitB c [used l r, used r r'] = g l r r') → partsN c = some 2 →
             (match twoA (rd n) l with | none => none | some (d, r, r') => if g l r r' then some (d, r') else none) =
             (match (match partsN c with | none => none | some k => some (k, l) : Option (Nat × Bs)) with | none => none | some (k, r) => match manyA (rd n) k 1 r with | none => none | some (d, r') => if fitB c (kidsN (rd n) k r) then some (d, r') else none) := by
           intro g hg hp
           rw [hp]
           show _ = (match manyA (rd n) 2 1 l with | none => none | some (d, r') => if fitB c (kidsN (rd n) 2 l) then some (d, r') else none)
           rw [many_two]
           unfold two2
           cases ht : twoA (rd n) l with
           | none => rfl
           | some x =>
             obtain ⟨d, r, r'⟩ := x
             simp only
             rw [kidsN_two ht, hg r r' d ht]
         by_cases c7 : c = 88
         · subst c7
           rw [if_pos rfl]
           exact key (fun l r r' => leB (used l r) (used r r')) (fun r r' d _ => rfl) (by decide)
         · rw [if_neg c7]
           by_cases c8 : c = 87
           · subst c8
             rw [if_pos rfl]
             refine key (fun l r _ => isPk l.head? && isPk r.head?) (fun r r' d ht => ?_) (by decide)
             obtain ⟨p, q, a, b, rfl, rfl, _, _, _, hp, hq⟩ := two_good (rd_good n) ht
             show (isPk (used (p ++ (q ++ r')) (q ++ r')).head? && isPk (used (q ++ r') r').head?) = _
             rw [used_app, used_app, head_app hp.2.1, head_app hq.2.1]
           · rw [if_neg c8]
             by_cases c9 : c = 76
             · subst c9
               rw [if_pos rfl]
               refine key (fun l _ _ => isPk l.head?) (fun r r' d ht => ?_) (by decide)
               obtain ⟨p, q, a, b, rfl, rfl, _, _, _, hp, hq⟩ := two_good (rd_good n) ht
               show isPk (used (p ++ (q ++ r')) (q ++ r')).head? = _
               rw [used_app, head_app hp.2.1]
             · rw [if_neg c9]
               have hp : partsN c = none := by
                 unfold partsN
                 rw [if_neg (by rintro (h | h) <;> contradiction), if_neg]
                 rintro (h | h | h | h | h | h | h | h)
                 · exact c6 (by rw [h]; decide)
                 · exact c6 (by rw [h]; decide)
                 · exact c7 h
                 · exact c6 (by rw [h]; decide)
                 · exact c6 (by rw [h]; decide)
                 · exact c8 h
                 · exact c6 (by rw [h]; decide)
                 · exact c9 h
               rw [hp]
end Go.Proofs.YtkifchjpgdmcoaaGreatDoor.Tm

/- What the document's small readings do: none, how many parts, a public key, whether the parts fit. -/
namespace Go.Proofs.YtkifchjpgdmcoaaGreatDoor
open Go.RowKit
abbrev cutV (E D N F : Int) (kids : Value) : Value := .agg #[.int .i64 E, .int .i64 D, .int .u64 N, .int .i64 F, kids]
set_option maxHeartbeats 1000000 in
theorem rnone_any (w : World) : Calls Tryz.prog 107 #[] w fun en w' => en = .returned (cutV (-1) 0 0 0 (.slice none 0 0)) ∧ Below w.heap.size w w' := by
 go_enter Tryz.func107, Tryz.ntmps107
 go_wp2_with fail
 refine bodyPost_ret (v := cutV (-1) 0 0 0 (.slice none 0 0)) (by simp [results, Tryz.results107, go_sem]) rfl ⟨rfl, ?_⟩
 exact (Below.refl _ _).alloc (Nat.le_refl _) _
def partsI (c : UInt8) : Int := match Tm.partsN c with | none => -1 | some k => k
theorem byte_ne {c k : UInt8} (h : c ≠ k) : ((c.toNat : Int) == (k.toNat : Int)) = false := by simp; intro e; exact h (UInt8.toNat_inj.1 (by omega))
set_option maxHeartbeats 2000000 in
theorem rparts_any (c : UInt8) (w : World) : Calls Tryz.prog 109 #[.int .u8 (c.toNat : Int)] w fun en w' => en = .returned (.int .i64 (partsI c)) ∧ w' = w := by
 by_cases h80 : c = 80
 · subst h80
   go_enter Tryz.func109, Tryz.ntmps109
   go_wp2
   go_ret
   exact ⟨rfl, rfl⟩
 by_cases h72 : c = 72
 · subst h72
   go_enter Tryz.func109, Tryz.ntmps109
   go_wp2
   go_ret
   exact ⟨rfl, rfl⟩
 by_cases h83 : c = 83
 · subst h83
   go_enter Tryz.func109, Tryz.ntmps109
   go_wp2
   go_ret
   exact ⟨rfl, rfl⟩
 by_cases h66 : c = 66
 · subst h66
   go_enter Tryz.func109, Tryz.ntmps109
   go_wp2
   go_ret
   exact ⟨rfl, rfl⟩
 by_cases h88 : c = 88
 · subst h88
   go_enter Tryz.func109, Tryz.ntmps109
   go_wp2
   go_ret
   exact ⟨rfl, rfl⟩
 by_cases h68 : c = 68
 · subst h68
   go_enter Tryz.func109, Tryz.ntmps109
   go_wp2
   go_ret
   exact ⟨rfl, rfl⟩
 by_cases h86 : c = 86
 · subst h86
   go_enter Tryz.func109, Tryz.ntmps109
   go_wp2
   go_ret
   exact ⟨rfl, rfl⟩
 by_cases h87 : c = 87
 · subst h87
   go_enter Tryz.func109, Tryz.ntmps109
   go_wp2
   go_ret
   exact ⟨rfl, rfl⟩
 by_cases h75 : c = 75
 · subst h75
   go_enter Tryz.func109, Tryz.ntmps109
   go_wp2
   go_ret
   exact ⟨rfl, rfl⟩
 by_cases h76 : c = 76
 · subst h76
   go_enter Tryz.func109, Tryz.ntmps109
   go_wp2
   go_ret
   exact ⟨rfl, rfl⟩
 have e80 : ((c.toNat : Int) == 80) = false := byte_ne (k := 80) h80
 have e72 : ((c.toNat : Int) == 72) = false := byte_ne (k := 72) h72
 have e83 : ((c.toNat : Int) == 83) = false := byte_ne (k := 83) h83
 have e66 : ((c.toNat : Int) == 66) = false := byte_ne (k := 66) h66
 have e88 : ((c.toNat : Int) == 88) = false := byte_ne (k := 88) h88
 have e68 : ((c.toNat : Int) == 68) = false := byte_ne (k := 68) h68
 have e86 : ((c.toNat : Int) == 86) = false := byte_ne (k := 86) h86
 have e87 : ((c.toNat : Int) == 87) = false := byte_ne (k := 87) h87
 have e75 : ((c.toNat : Int) == 75) = false := byte_ne (k := 75) h75
 have e76 : ((c.toNat : Int) == 76) = false := byte_ne (k := 76) h76
 have HP : Hid (partsI c = -1) := by
   apply hid; unfold partsI Tm.partsN
   rw [if_neg (by simp [h80, h72]), if_neg (by simp [h83, h66, h88, h68, h86, h87, h75, h76])]
 clear h80 h72 h83 h66 h88 h68 h86 h87 h75 h76
 go_enter Tryz.func109, Tryz.ntmps109
 go_wp2
 go_ret
 exact ⟨by rw [HP.out]; rfl, rfl⟩
set_option maxHeartbeats 1000000 in
theorem rpublic_any (c : UInt8) (w : World) : Calls Tryz.prog 93 #[.int .u8 (c.toNat : Int)] w fun e w' => e = .returned (.bool (Tm.isPk (some c))) ∧ w' = w := by
 by_cases h1 : c = 80
 · subst h1
   go_enter Tryz.func93, Tryz.ntmps93
   go_wp2
   go_ret
   exact ⟨rfl, rfl⟩
 · by_cases h2 : c = 87
   · subst h2
     go_enter Tryz.func93, Tryz.ntmps93
     go_wp2
     go_ret
     exact ⟨rfl, rfl⟩
   · by_cases h3 : c = 76
     · subst h3
       go_enter Tryz.func93, Tryz.ntmps93
       go_wp2
       go_ret
       exact ⟨rfl, rfl⟩
     · have e1 : ((c.toNat : Int) == 80) = false := byte_ne (k := 80) h1
       have e2 : ((c.toNat : Int) == 87) = false := byte_ne (k := 87) h2
       have e3 : ((c.toNat : Int) == 76) = false := byte_ne (k := 76) h3
       have HE : Hid (Tm.isPk (some c) = false) := by show _ = _; simp [Tm.isPk, h1, h2, h3]
       clear h1 h2 h3
       go_enter Tryz.func93, Tryz.ntmps93
       go_wp2
       go_ret
       exact ⟨by rw [HE.out]; rfl, rfl⟩
set_option maxHeartbeats 2000000 in
theorem fits_80 (s : ByteArray) (a : Nat) (ha : a < s.size) (E D N F : Int) (g m cap : Nat) (p0 : Nat) (w : World) (hc : s[a] = 80) (hm : 1 ≤ m) (h0 : p0 < s.size) (_hs : s.size ≤ 20000) (hg : g < w.heap.size)
   (c0 : w.cell? ⟨g, 0, none⟩ = some (.int .i64 (p0 : Int))) :
   Calls Tryz.prog 110 #[.string s, .int .i64 (a : Int), cutV E D N F (.slice (some ⟨g, 0, none⟩) m cap)] w fun en w' => en = .returned (.bool (!(s[p0] == 86 || s[p0] == 75))) ∧ Below w.heap.size w w' := by
 have e80 : ((s[a].toNat : Int) == 80) = true := by simp [hc]
 have e88 : ((s[a].toNat : Int) == 88) = false := by simp [hc]
 have e87 : ((s[a].toNat : Int) == 87) = false := by simp [hc]
 have e76 : ((s[a].toNat : Int) == 76) = false := by simp [hc]
 clear hc
 by_cases h86 : s[p0] = 86
 · have b1 : ((s[p0].toNat : Int) != 86) = false := by simp [h86]
   have HR : Hid ((!(s[p0] == 86 || s[p0] == 75)) = false) := by apply hid; rw [h86]; rfl
   clear h86
   go_enter Tryz.func110, Tryz.ntmps110
   go_wp2_with fail
   go_ret
   exact ⟨by rw [HR.out]; rfl, (Below.refl _ _).alloc (Nat.le_refl _) _⟩
 · have b1 : ((s[p0].toNat : Int) != 86) = true := by simp; intro h; exact h86 (UInt8.toNat_inj.1 (by simp; omega))
   by_cases h75 : s[p0] = 75
   · have b2 : ((s[p0].toNat : Int) != 75) = false := by simp [h75]
     have HR : Hid ((!(s[p0] == 86 || s[p0] == 75)) = false) := by apply hid; rw [h75]; rfl
     clear h86 h75
     go_enter Tryz.func110, Tryz.ntmps110
     go_wp2_with fail
     go_ret
     exact ⟨by rw [HR.out]; rfl, (Below.refl _ _).alloc (Nat.le_refl _) _⟩
   · have b2 : ((s[p0].toNat : Int) != 75) = true := by simp; intro h; exact h75 (UInt8.toNat_inj.1 (by simp; omega))
     have HR : Hid ((!(s[p0] == 86 || s[p0] == 75)) = true) := by apply hid; simp [h86, h75]
     clear h86 h75
     go_enter Tryz.func110, Tryz.ntmps110
     go_wp2_with fail
     go_ret
     exact ⟨by rw [HR.out]; rfl, (Below.refl _ _).alloc (Nat.le_refl _) _⟩
set_option maxHeartbeats 2000000 in
theorem fits_88 (s : ByteArray) (a : Nat) (ha : a < s.size) (E D N F : Int) (g m cap : Nat) (p0 p1 p2 : Nat) (w : World) (hc : s[a] = 88) (hm : 3 ≤ m) (h0 : p0 ≤ p1) (h1 : p1 ≤ p2) (h2 : p2 ≤ s.size) (_hs : s.size ≤ 20000) (hg : g < w.heap.size)
   (c0 : w.cell? ⟨g, 0, none⟩ = some (.int .i64 (p0 : Int))) (c1 : w.cell? ⟨g, 1, none⟩ = some (.int .i64 (p1 : Int))) (c2 : w.cell? ⟨g, 2, none⟩ = some (.int .i64 (p2 : Int))) :
   Calls Tryz.prog 110 #[.string s, .int .i64 (a : Int), cutV E D N F (.slice (some ⟨g, 0, none⟩) m cap)] w fun en w' => en = .returned (.bool (Tm.leB ((rest s p0).take (p1 - p0)) ((rest s p1).take (p2 - p1)))) ∧ Below w.heap.size w w' := by
 have e80 : ((s[a].toNat : Int) == 80) = false := by simp [hc]
 have e88 : ((s[a].toNat : Int) == 88) = true := by simp [hc]
 have e87 : ((s[a].toNat : Int) == 87) = false := by simp [hc]
 have e76 : ((s[a].toNat : Int) == 76) = false := by simp [hc]
 clear hc
 have HL : Hid ((Op.bytesLess (s.extract p0 p1).toList (s.extract p1 p2).toList || (s.extract p0 p1).toList == (s.extract p1 p2).toList) = Tm.leB ((rest s p0).take (p1 - p0)) ((rest s p1).take (p2 - p1))) := by
   apply hid; rw [Lib.extract_toList, Lib.extract_toList, bytesLess_blt]; rfl
 go_enter Tryz.func110, Tryz.ntmps110
 go_wp2_with fail
 go_quiet (fail)
 go_wp2_with fail
 go_ret
 exact ⟨by rw [← HL.out]; rfl, below_drewN ((Below.refl _ _).alloc (Nat.le_refl _) _) _⟩
set_option maxHeartbeats 2000000 in
theorem fits_87 (s : ByteArray) (a : Nat) (ha : a < s.size) (E D N F : Int) (g m cap : Nat) (p0 p1 : Nat) (w : World) (hc : s[a] = 87) (hm : 2 ≤ m) (h0 : p0 < s.size) (h1 : p1 < s.size) (_hs : s.size ≤ 20000) (hg : g < w.heap.size)
   (c0 : w.cell? ⟨g, 0, none⟩ = some (.int .i64 (p0 : Int))) (c1 : w.cell? ⟨g, 1, none⟩ = some (.int .i64 (p1 : Int))) :
   Calls Tryz.prog 110 #[.string s, .int .i64 (a : Int), cutV E D N F (.slice (some ⟨g, 0, none⟩) m cap)] w fun en w' => en = .returned (.bool (Tm.isPk (some s[p0]) && Tm.isPk (some s[p1]))) ∧ Below w.heap.size w w' := by
 have e80 : ((s[a].toNat : Int) == 80) = false := by simp [hc]
 have e88 : ((s[a].toNat : Int) == 88) = false := by simp [hc]
 have e87 : ((s[a].toNat : Int) == 87) = true := by simp [hc]
 have e76 : ((s[a].toNat : Int) == 76) = false := by simp [hc]
 clear hc
 cases hk : Tm.isPk (some s[p0])
 · have HK := hid hk
   clear hk
   go_enter Tryz.func110, Tryz.ntmps110
   go_wp2_with fail
   refine (rpublic_any _ _).mono ?_
   rintro e w1 ⟨rfl, rfl⟩
   rw [HK.out]
   go_wp2_with fail
   go_ret
   exact ⟨rfl, (Below.refl _ _).alloc (Nat.le_refl _) _⟩
 · have HK := hid hk
   clear hk
   go_enter Tryz.func110, Tryz.ntmps110
   go_wp2_with fail
   refine (rpublic_any _ _).mono ?_
   rintro e w1 ⟨rfl, rfl⟩
   rw [HK.out]
   go_wp2_with fail
   refine (rpublic_any _ _).mono ?_
   rintro e w1 ⟨rfl, rfl⟩
   go_wp2_with fail
   go_ret
   exact ⟨by simp, (Below.refl _ _).alloc (Nat.le_refl _) _⟩
set_option maxHeartbeats 2000000 in
theorem fits_76 (s : ByteArray) (a : Nat) (ha : a < s.size) (E D N F : Int) (g m cap : Nat) (p0 : Nat) (w : World) (hc : s[a] = 76) (hm : 1 ≤ m) (h0 : p0 < s.size) (_hs : s.size ≤ 20000) (hg : g < w.heap.size)
   (c0 : w.cell? ⟨g, 0, none⟩ = some (.int .i64 (p0 : Int))) :
   Calls Tryz.prog 110 #[.string s, .int .i64 (a : Int), cutV E D N F (.slice (some ⟨g, 0, none⟩) m cap)] w fun en w' => en = .returned (.bool (Tm.isPk (some s[p0]))) ∧ Below w.heap.size w w' := by
 have e80 : ((s[a].toNat : Int) == 80) = false := by simp [hc]
 have e88 : ((s[a].toNat : Int) == 88) = false := by simp [hc]
 have e87 : ((s[a].toNat : Int) == 87) = false := by simp [hc]
 have e76 : ((s[a].toNat : Int) == 76) = true := by simp [hc]
 clear hc
 go_enter Tryz.func110, Tryz.ntmps110
 go_wp2_with fail
 refine (rpublic_any _ _).mono ?_
 rintro e w1 ⟨rfl, rfl⟩
 go_wp2_with fail
 go_ret
 exact ⟨rfl, (Below.refl _ _).alloc (Nat.le_refl _) _⟩
set_option maxHeartbeats 2000000 in
theorem fits_else (s : ByteArray) (a : Nat) (ha : a < s.size) (E D N F : Int) (g m cap : Nat) (w : World) (h80 : s[a] ≠ 80) (h88 : s[a] ≠ 88) (h87 : s[a] ≠ 87) (h76 : s[a] ≠ 76) (_hs : s.size ≤ 20000) :
   Calls Tryz.prog 110 #[.string s, .int .i64 (a : Int), cutV E D N F (.slice (some ⟨g, 0, none⟩) m cap)] w fun en w' => en = .returned (.bool true) ∧ Below w.heap.size w w' := by
 have e80 : ((s[a].toNat : Int) == 80) = false := byte_ne (k := 80) h80
 have e88 : ((s[a].toNat : Int) == 88) = false := byte_ne (k := 88) h88
 have e87 : ((s[a].toNat : Int) == 87) = false := byte_ne (k := 87) h87
 have e76 : ((s[a].toNat : Int) == 76) = false := byte_ne (k := 76) h76
 clear h80 h88 h87 h76
 go_enter Tryz.func110, Tryz.ntmps110
 go_wp2_with fail
 go_ret
 exact ⟨rfl, (Below.refl _ _).alloc (Nat.le_refl _) _⟩
end Go.Proofs.YtkifchjpgdmcoaaGreatDoor
