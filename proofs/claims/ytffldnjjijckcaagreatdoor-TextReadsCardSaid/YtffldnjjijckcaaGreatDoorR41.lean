/-
  The program's Line.
-/
import Derived.Test.YtffldnjjijckcaaGreatDoorR40
import Derived.Test.YtffldnjjijckcaaGreatDoorR39
set_option linter.unusedSimpArgs false
set_option linter.unusedVariables false
namespace Go.Proofs.YtffldnjjijckcaaGreatDoor
open Go.RowKit
def kWords (k : Int) : Nat := if k = 1 then 47 else if k = 2 then 49 else if k = 3 then 51 else if k = 5 then 55 else if k = 6 then 57 else 53
theorem words6_any (w : World) (hG : Glob6 w) (x : Ev) (hx : x.In) (hg : evGood x = true) (tx rd : Value) {N : Nat} (ht : EvAt N w tx rd x) (hN : N ≤ w.heap.size) : Calls Tryz.prog (kWords x.k) #[.agg (evC x tx rd)] w (Words6 w (evTail x)) := by
  obtain ⟨hk, hc, hf, hn⟩ := good_parts hg
  unfold evFits at hf
  rcases kind_cases hk with e | e | e | e | e | e | e
  · rw [show evTail x = cfgW x.g by simp [evTail, e], e]
    simp only [e, if_true] at hf
    exact wordsOfConfig_any w hG x hx hf tx rd
  · rw [show evTail x = whoW x ++ opWords x.o by simp [evTail, e], e]
    simp only [e] at hf
    exact wordsOfInvoke_any w hG x hx (by simpa using hf) tx rd
  · rw [show evTail x = whoW x ++ [rsTxt x.rk x.rv] by simp [evTail, e], e]
    simp only [e] at hf
    exact wordsOfReturn_any w hG x hx (by simpa using hf) tx rd
  · rw [show evTail x = whoW x by simp [evTail, e], e]
    exact wordsOfWho_any w hG x hx tx rd
  · rw [show evTail x = whoW x ++ x.t.flatMap micW by simp [evTail, e], e]
    simp only [e] at hf
    have := (mics_all (by simpa using hf)).2.1
    exact wordsOfBegin_any w hG x hx tx rd ht.t hN (by omega)
  · rw [show evTail x = whoW x ++ x.r.map listW by simp [evTail, e], e]
    simp only [e] at hf
    obtain ⟨h1, h2⟩ := lists_all (by simpa using hf)
    exact wordsOfCommit_any w hG x hx tx rd ht.r hN (by omega) (fun l hl => by have := h2 l hl; omega)
  · rw [show evTail x = whoW x by simp [evTail, e], e]
    exact wordsOfWho_any w hG x hx tx rd
theorem listW_len {l : List Int} (hi : InU16 l) (hl : l.length ≤ 32) : (listW l).length ≤ 1000 := by
  unfold listW
  split
  · simp
  · have := join_le (l := l.map dec) (N := 7) (fun x hx => by
      rw [List.mem_map] at hx
      obtain ⟨n, hn, rfl⟩ := hx
      have := mem_u16.1 hi n hn
      exact dec_short this.1 (by omega)) 44
    simp at this ⊢
    omega
set_option maxHeartbeats 4000000 in
theorem tail_short {x : Ev} (hx : x.In) (hg : evGood x = true) : (∀ w ∈ kdNm x.k :: evTail x, w.length ≤ 1000) ∧ (evTail x).length ≤ 100 := by
  obtain ⟨hk, hc, hf, hn⟩ := good_parts hg
  have hd : ∀ n : Int, 0 ≤ n → n < 10000000 → (dec n).length ≤ 1000 := fun n a b => by have := dec_short a b; omega
  have hwho : ∀ w ∈ whoW x, w.length ≤ 1000 := by
    intro w hw
    simp [whoW] at hw
    rcases hw with rfl | rfl
    · exact hd _ hx.c0 (by omega)
    · exact hd _ hx.i0 (by have := hx.i1; omega)
  have hkd : (kdNm x.k).length ≤ 1000 := by rcases kind_cases hk with e | e | e | e | e | e | e <;> rw [e] <;> decide
  have hwl : (evWords x).length ≤ 27 := words_le hx hg
  have ho := hx.o
  unfold evFits at hf
  have key : ∀ w ∈ evTail x, w.length ≤ 1000 := by
    unfold evTail
    rcases kind_cases hk with e | e | e | e | e | e | e
    · simp only [e, if_true] at hf ⊢
      obtain ⟨g1, g2, g3, g4⟩ := cfg_all hf
      have hm0 := hx.m0
      have hmd : (mdNm x.g.m).length ≤ 1000 := by
        rcases (by omega : x.g.m = 0 ∨ x.g.m = 1 ∨ x.g.m = 2 ∨ x.g.m = 3 ∨ x.g.m = 4) with e | e | e | e | e <;> rw [e] <;> decide
      have h1 := hd x.g.mo (by omega) (by omega)
      have h2 := hd x.g.ms (by omega) (by omega)
      have h3 := hd x.g.mt (by omega) (by omega)
      intro w hw
      unfold cfgW flagW at hw
      simp only [List.mem_append, List.mem_cons, List.not_mem_nil, or_false] at hw
      rcases hw with (((rfl | rfl | rfl | rfl) | h) | h) | h
      · exact hmd
      · exact h1
      · exact h2
      · exact h3
      all_goals
        split at h
        · simp at h; subst h; decide
        · simp at h
    · simp [e] at hf ⊢
      intro w hw
      rcases hw with h | h
      · exact hwho w h
      · unfold opWords at h
        simp only [List.mem_append, List.mem_cons, List.not_mem_nil, or_false] at h
        rcases h with (((rfl | rfl) | h) | h) | h
        · exact hd _ ho.o0 (by have := ho.o1; omega)
        · unfold opNm
          repeat' split
          all_goals decide
        all_goals
          split at h
          · simp at h; subst h; first | exact hd _ ho.k0 (by have := ho.k1; omega) | exact hd _ ho.a0 (by have := ho.a1; omega) | exact hd _ ho.b0 (by have := ho.b1; omega)
          · simp at h
    · simp [e]
      intro w hw
      rcases hw with h | rfl
      · exact hwho w h
      · have := txt_size (k := x.rk) (v := x.rv) (by have := hx.rv1; omega); omega
    · simp [e]; exact hwho
    · simp [e] at hf ⊢
      intro w hw
      rcases hw with h | ⟨m, hm, h⟩
      · exact hwho w h
      · have hmi := hx.t m hm
        unfold micW at h
        split at h
        · simp at h; rcases h with rfl | rfl
          · decide
          · exact hd _ hmi.k0 (by have := hmi.k1; omega)
        · simp at h; rcases h with rfl | rfl | rfl
          · decide
          · exact hd _ hmi.k0 (by have := hmi.k1; omega)
          · exact hd _ hmi.v0 (by have := hmi.v1; omega)
    · simp [e] at hf ⊢
      intro w hw
      rcases hw with h | ⟨l, hl, rfl⟩
      · exact hwho w h
      · exact listW_len (hx.r l hl) ((lists_all hf).2 l hl)
    · simp [e]; exact hwho
  refine ⟨fun w hw => ?_, ?_⟩
  · rcases List.mem_cons.1 hw with rfl | hw
    · exact hkd
    · exact key w hw
  · by_cases k3 : x.k = 3
    · simp [evTail, k3, whoW]
    · unfold evWords at hwl
      rw [if_neg k3] at hwl
      simp at hwl
      omega
theorem txKind_1 (k : Int) (h1 : 1 ≤ k) (h7 : k ≤ 7) : (txKind k)[1]? = some (.func (.func (kWords k)) #[] #[]) := by
  rcases (by omega : k = 1 ∨ k = 2 ∨ k = 3 ∨ k = 4 ∨ k = 5 ∨ k = 6 ∨ k = 7) with rfl | rfl | rfl | rfl | rfl | rfl | rfl <;> rfl
theorem enter_words6 {k : Int} (h1 : 1 ≤ k) (h7 : k ≤ 7) : ∀ v w, (callFunc (kWords k) #[v]).run Tryz.prog w = .ok (.enter (kWords k) #[v]) w := by
  rcases (by omega : k = 1 ∨ k = 2 ∨ k = 3 ∨ k = 4 ∨ k = 5 ∨ k = 6 ∨ k = 7) with rfl | rfl | rfl | rfl | rfl | rfl | rfl
  all_goals
    intro v w
    simp [kWords, go_sem]
theorem wp_put_rowO {o : Oper} {a : Act} {w : World} {K : Act → World → Prop} {Q : Exit → Act → World → Prop} {T : TypeId} {x y : Operand} {g : Nat} {old cells : Array Value} {t : TypeId} (n : Nat)
    (ho : o.op = .store T x y) (hx : a.eval x = .pointer (some ⟨g, 0, none⟩)) (hy : a.eval y = .agg cells) (hg : w.heap[g]? = some (.cells old t (0, 0))) (hs : old.size = n ∧ cells.size = n) (hT : (Tryz.prog.info? T).map (·.size) = some n)
    (h1 : cells.toList.all (·.oneCell') = true) (h : ∀ W, W.heap[g]? = some (.cells cells t (0, 0)) → Keeps [g] w W → K (a.put o.dst undef) W) : o.wp Tryz.prog a w K Q :=
  wp_store_row T x y ho g cells hx hy t old hg (by rw [hs.2]; exact hT) (by rw [hs.1, hs.2]) (by rw [← Array.all_toList]; exact h1) (h _ (setRow_heap w g old cells t (0, 0) hg) ((Keeps.refl [g] w).setRow g cells (.inl (by simp))))
def LinePost (x : Ev) (w : World) (e : Ending) (w' : World) : Prop := e = .returned (.tuple #[.string (bs (if evGood x then evLine x else [])), .int .i64 (evErr x)]) ∧ Keeps [] w w'
set_option maxHeartbeats 16000000 in
set_option maxRecDepth 100000 in
theorem txLine_any (w : World) (hG : Glob6 w) (x : Ev) (hx : x.In) (tx rd : Value) {N : Nat} (ht : EvAt N w tx rd x) (hN : N ≤ w.heap.size) : Calls Tryz.prog 8 #[.agg (evC x tx rd)] w (LinePost x w) := by
  have hk0 := (Keeps.refl [] w).alloc (.cells (evC x tx rd) 32)
  have HX := Lib.hid (heap_alloc_new w (.cells (evC x tx rd) 32))
  have HG0 := Lib.hid (hG.new hk0)
  have HK := Lib.hid hk0
  have hz : w.heap.size < (w.alloc (.cells (evC x tx rd) 32)).heap.size := lt_of_block HX.out
  have ht0 := ht.new hk0 hN
  have hchk := Check5_any _ HG0.out.o x hx tx rd ht0 (Nat.le_trans hN hk0.size)
  have HT := Lib.hid ht0
  unfold LinePost
  have hE : evErr x = if evGood x then 0 else 4 := rfl
  rw [hE] at hchk ⊢
  have hNw : N ≤ (w.alloc (.cells (evC x tx rd) 32)).heap.size := Nat.le_trans hN hk0.size
  clear hk0 ht ht0 hE hG
  cases hg : evGood x with
  | false =>
    rw [hg] at hchk
    simp only [Bool.false_eq_true, if_false] at hchk ⊢
    clear hg
    go_enter Tryz.func8, Tryz.ntmps8
    go_wp2_with ((with_reducible apply wpList_load_ev); exact rfl; exact HX.out; exact rfl)
    generalize w.alloc (.cells (evC x tx rd) 32) = w1 at *
    refine hchk.mono ?_; rintro e w2 ⟨rfl, hk2⟩
    have HK2 := Lib.hid (HK.out.trans hk2 (FSub.refl _ _))
    clear hchk hk2 HX HT
    go_wp2_with fail
    go_ret2
    exact ⟨rfl, HK2.out⟩
  | true =>
    rw [hg] at hchk
    have hline : evLine x = Lib.join (kdNm x.k :: evTail x) [32] := rfl
    simp only [if_true] at hchk ⊢
    rw [hline]
    clear hline
    obtain ⟨RS, hRS⟩ : ∃ R, bs (Lib.join (kdNm x.k :: evTail x) [32]) = R := ⟨_, rfl⟩
    rw [hRS]
    have HRS := Lib.hid hRS
    clear hRS
    go_enter Tryz.func8, Tryz.ntmps8
    go_wp2_with ((with_reducible apply wpList_load_ev); exact rfl; exact HX.out; exact rfl)
    generalize w.alloc (.cells (evC x tx rd) 32) = w1 at *
    refine hchk.mono ?_; rintro e w2 ⟨rfl, hk2⟩
    obtain ⟨hkd, -, -, -⟩ := good_parts hg
    have hk17 : 1 ≤ x.k ∧ x.k ≤ 7 := by simp [evKind] at hkd; omega
    have hts := tail_short hx hg
    have hX2 := hk2.heap HX.out (by simp)
    have HX2 := Lib.hid hX2
    have HG2 := Lib.hid (HG0.out.new hk2)
    have HK2 := Lib.hid (HK.out.trans hk2 (FSub.refl _ _))
    have HT2 := Lib.hid (HT.out.new hk2 hNw)
    have hN2 : N ≤ w2.heap.size := Nat.le_trans hNw hk2.size
    generalize hB : w.heap.size = B at *
    have hBw : B < w2.heap.size := lt_of_block hX2
    have hix := fun w => index_tx8 w x.k hk17.1 hk17.2
    have hz3 := txKind_size x.k; have ho3 := txKind_one x.k
    have h30 := txKind_0 x.k; have h31 := txKind_1 x.k hk17.1 hk17.2
    have hent := enter_words6 hk17.1 hk17.2
    have hwd := fun w hG ht hN => words6_any w hG x hx hg tx rd (N := N) ht hN
    have hTLn : evTail x ≠ [] := by
      unfold evTail cfgW whoW
      repeat' split
      all_goals simp
    have HTLN := Lib.hid hTLn
    clear hTLn
    generalize txKind x.k = C at *
    generalize kWords x.k = KW at *
    generalize kdNm x.k = NM at *
    generalize evTail x = TL at *
    generalize hKC : txKindsC = KC at *
    have HZ3 := Lib.hid hz3; have HO3 := Lib.hid ho3; have H30 := Lib.hid h30; have H31 := Lib.hid h31; have HWD := Lib.hid hwd; have HTS := Lib.hid hts
    have HTXX := Lib.hid hx
    have HKC := Lib.hid hKC
    clear HX HG0 HK HT hchk hk2 hz3 ho3 h30 h31 hwd hts hg hkd hX2 hx hKC hB hk17
    simp only []
    go_wp2_with fail
    refine wp_region_noPanic ?_
    refine wp_region_held_drew (S := fun w' => w'.heap[B]? = some (.cells (evC x tx rd) 32 (0, 0))) (by kernel_rfl) HX2.out (fun hHeld => ?_)
    apply wpAnyH_take (i := 1) (v := .pointer (some ⟨B, 0, none⟩))
    · simp only [List.getElem?_toArray]; rfl
    · kernel_rfl
    · kernel_rfl
    · kernel_rfl
    · exact fun _ _ _ h => h
    · exact Or.inl ⟨by rfl, by intro w hSw; go_simp; try with_reducible rfl⟩
    · assumption
    try simp only [Act.put, List.setIfInBounds_toArray, List.set_cons_zero, List.set_cons_succ]
    apply wpAnyH_take (i := 2) (v := .int .u8 x.k)
    · simp only [List.getElem?_toArray]; rfl
    · kernel_rfl
    · kernel_rfl
    · kernel_rfl
    · exact fun _ _ _ h => h
    · exact Or.inl ⟨by rfl, by intro w hSw; have d0 := ev_cell hSw 0 (evC_0 x tx rd); go_simp; try with_reducible rfl⟩
    · assumption
    try simp only [Act.put, List.setIfInBounds_toArray, List.set_cons_zero, List.set_cons_succ]
    apply wpAnyH_ready (rs := [0, 4])
    · kernel_rfl
    · simp
    refine AllReadyH.cons (o := ?o0) ?h0 ?k0 (AllReadyH.cons (o := ?o4) ?h4 ?k4 AllReadyH.nil)
    case h0 => simp only [List.getElem?_toArray]; rfl
    case h4 => simp only [List.getElem?_toArray]; rfl
    case k0 =>
      intro K hK
      rw [if_pos (by rfl)]
      go_simp
      refine (txKinds_any _).mono ?_; rintro e w3 ⟨rfl, hk3⟩
      rw [HKC.out]
      have hk3 := hk3.undrew
      have hX3 := hk3.heap HX2.out (by simp)
      go_wp2_with fail
      refine hK.out _ _ ?_ (fun hHeld => ?_)
      · exact hX3
      clear hK K
      try simp only [Act.put, List.setIfInBounds_toArray, List.set_cons_zero, List.set_cons_succ]
      apply wpAnyH_ready (rs := [3, 4])
      · kernel_rfl
      · simp
      refine AllReadyH.cons (o := ?o3q) ?h3q ?k3q (AllReadyH.cons (o := ?o4q) ?h4q ?k4q AllReadyH.nil)
      case h3q => simp only [List.getElem?_toArray]; rfl
      case h4q => simp only [List.getElem?_toArray]; rfl
      case k3q =>
        intro K hK
        rw [if_pos (by rfl)]
        go_simp
        go_wp2_with fail
        refine hK.out _ _ ?_ (fun hHeld => ?_)
        · exact hX3
        clear hK K
        try simp only [Act.put, List.setIfInBounds_toArray, List.set_cons_zero, List.set_cons_succ]
        apply wpAnyH_ready (rs := [4])
        · kernel_rfl
        · simp
        apply AllReadyH.cons (hs := AllReadyH.nil)
        · simp only [List.getElem?_toArray]; rfl
        intro K hK
        rw [if_pos (by rfl)]
        go_simp
        have hkP := hk3.alloc (.cells #[.string ⟨#[]⟩, .nilFunc, .nilFunc] 59)
        have hXP := hkP.heap HX2.out (by simp)
        have hPP := heap_alloc_new w3 (.cells #[.string ⟨#[]⟩, .nilFunc, .nilFunc] 59)
        have hBP : B < w3.heap.size := lt_of_block hX3
        have hPw : w2.heap.size ≤ w3.heap.size := hk3.size
        generalize w3.alloc (.cells #[.string ⟨#[]⟩, .nilFunc, .nilFunc] 59) = W4 at *
        generalize w3.heap.size = P at *
        refine hK.out _ _ ?_ (fun hHeld => ?_)
        · exact hXP
        clear hK K
        try simp only [Act.put, List.setIfInBounds_toArray, List.set_cons_zero, List.set_cons_succ]
        apply wpAnyH_ready (rs := [5])
        · kernel_rfl
        · simp
        apply AllReadyH.cons (hs := AllReadyH.nil)
        · simp only [List.getElem?_toArray]; rfl
        intro K hK
        rw [if_pos (by rfl)]
        refine wp_put_rowO (T := 59) 3 rfl rfl rfl hPP ⟨rfl, HZ3.out⟩ (by kernel_rfl) HO3.out ?_
        intro W5 hP5 hk5
        have hX5 := hk5.heap hXP (by simp; omega)
        have HX5 := Lib.hid hX5; have HP5 := Lib.hid hP5
        have hk25 : Keeps [] w2 W5 := hkP.trans hk5 (fun y hy => .inr (by simp at hy; omega))
        have K5 := Lib.hid (HK2.out.trans hk25 (FSub.refl _ _)); have G5 := Lib.hid (HG2.out.new hk25); have T5 := Lib.hid (HT2.out.new hk25 hN2)
        have hN5 : N ≤ W5.heap.size := Nat.le_trans hN2 hk25.size
        have hB5 : B < W5.heap.size := lt_of_block hX5
        have hP55 : P < W5.heap.size := lt_of_block hP5
        refine hK.out _ _ ?_ (fun hHeld => ?_)
        · exact hX5
        clear hK K
        try simp only [Act.put, List.setIfInBounds_toArray, List.set_cons_zero, List.set_cons_succ]
        clear hk5 hP5 hX5 hk25 hkP hXP hPP hk3 hX3
        refine wpAnyH_done (by kernel_rfl) ?_ _
        refine NoPanic.normal ?_
        have hTL0 : TL ≠ [] := HTLN.out
        have G5d := Lib.hid (G5.out.new (Keeps.refl [] W5).drew)
        have T5d := Lib.hid (T5.out.new (Keeps.refl [] W5).drew hN5)
        go_wp2_with fail
        refine wp_region_noPanic ?_
        refine wp_region_held_drew (S := fun w' => w'.heap[B]? = some (.cells (evC x tx rd) 32 (0, 0)) ∧ w'.heap[P]? = some (.cells C 59 (0, 0))) (by kernel_rfl) ⟨HX5.out, HP5.out⟩ (fun hHeld => ?_)
        apply wpAnyH_take (i := 0) (v := .pointer (some ⟨P, 0, none⟩))
        · simp only [List.getElem?_toArray]; rfl
        · kernel_rfl
        · kernel_rfl
        · kernel_rfl
        · exact fun _ _ _ h => h
        · exact Or.inl ⟨by rfl, by intro w hSw; go_simp; try with_reducible rfl⟩
        · assumption
        try simp only [Act.put, List.setIfInBounds_toArray, List.set_cons_zero, List.set_cons_succ]
        apply wpAnyH_take (i := 1) (v := .string (bs NM))
        · simp only [List.getElem?_toArray]; rfl
        · kernel_rfl
        · kernel_rfl
        · kernel_rfl
        · exact fun _ _ _ h => h
        · exact Or.inl ⟨by rfl, by intro w hSw; have d0 : w.cell? ⟨P, 0, none⟩ = some (.string (bs NM)) := (by have := hSw.2; simp [World.cell?, this, H30.out]); go_simp; try with_reducible rfl⟩
        · assumption
        try simp only [Act.put, List.setIfInBounds_toArray, List.set_cons_zero, List.set_cons_succ]
        apply wpAnyH_take (i := 3) (v := .pointer (some ⟨P, 1, none⟩))
        · simp only [List.getElem?_toArray]; rfl
        · kernel_rfl
        · kernel_rfl
        · kernel_rfl
        · exact fun _ _ _ h => h
        · exact Or.inl ⟨by rfl, by intro w hSw; go_simp; try with_reducible rfl⟩
        · assumption
        try simp only [Act.put, List.setIfInBounds_toArray, List.set_cons_zero, List.set_cons_succ]
        apply wpAnyH_take (i := 4) (v := .func (.func KW) #[] #[])
        · simp only [List.getElem?_toArray]; rfl
        · kernel_rfl
        · kernel_rfl
        · kernel_rfl
        · exact fun _ _ _ h => h
        · exact Or.inl ⟨by rfl, by intro w hSw; have d0 : w.cell? ⟨P, 1, none⟩ = some (.func (.func KW) #[] #[]) := (by have := hSw.2; simp [World.cell?, this, H31.out]); go_simp; try with_reducible rfl⟩
        · assumption
        try simp only [Act.put, List.setIfInBounds_toArray, List.set_cons_zero, List.set_cons_succ]
        apply wpAnyH_take (i := 5) (v := .agg (evC x tx rd))
        · simp only [List.getElem?_toArray]; rfl
        · kernel_rfl
        · kernel_rfl
        · kernel_rfl
        · exact fun _ _ _ h => h
        · exact yields_ev (by rfl) _ rfl B rfl (fun w hSw => ev_load hSw.1)
        · assumption
        try simp only [Act.put, List.setIfInBounds_toArray, List.set_cons_zero, List.set_cons_succ]
        apply wpAnyH_ready (rs := [2, 6])
        · kernel_rfl
        · simp
        refine AllReadyH.cons (o := ?o2r) ?h2r ?k2r (AllReadyH.cons (o := ?o6r) ?h6r ?k6r AllReadyH.nil)
        case h2r => simp only [List.getElem?_toArray]; rfl
        case h6r => simp only [List.getElem?_toArray]; rfl
        case k2r =>
          intro K hK
          rw [if_pos (by rfl)]
          go_simp
          have hrowL : RowW W5.heap.size ((W5.alloc (.cells #[.string (bs NM)] 9)).drew) (.slice (some ⟨W5.heap.size, 0, none⟩) 1 1) [NM] := World.ownsRow_lit (base := W5.heap.size) (e := 9) (size := 1) W5 #[.string (bs NM)] 1 (Nat.le_refl _) (by decide) rfl
          have hkL : Keeps [] W5 ((W5.alloc (.cells #[.string (bs NM)] 9)).drew) := ((Keeps.refl [] W5).alloc _).drew
          have hXL := hkL.heap HX5.out (by simp); have hPL := hkL.heap HP5.out (by simp)
          have hGL := G5.out.new hkL
          have hTL := T5.out.new hkL hN5
          have hNL : N ≤ ((W5.alloc (.cells #[.string (bs NM)] 9)).drew).heap.size := Nat.le_trans hN5 hkL.size
          have hBL : B < ((W5.alloc (.cells #[.string (bs NM)] 9)).drew).heap.size := lt_of_block hXL
          have hPPL : P < ((W5.alloc (.cells #[.string (bs NM)] 9)).drew).heap.size := lt_of_block hPL
          generalize (W5.alloc (.cells #[.string (bs NM)] 9)).drew = W6 at *
          refine hK.out _ _ ?_ (fun hHeld => ?_)
          · exact ⟨hXL, hPL⟩
          clear hK K
          try simp only [Act.put, List.setIfInBounds_toArray, List.set_cons_zero, List.set_cons_succ]
          apply wpAnyH_ready (rs := [6])
          · kernel_rfl
          · simp
          apply AllReadyH.cons (hs := AllReadyH.nil)
          · simp only [List.getElem?_toArray]; rfl
          intro K hK
          rw [if_pos (by rfl)]
          go_simp
          refine (HWD.out _ hGL hTL hNL).mono ?_; rintro e w7 ⟨v7, rfl, hrow7, hk7⟩
          have hk57 := hkL.trans hk7 (FSub.refl _ _)
          have hX7 := hk7.heap hXL (by simp); have hP7 := hk7.heap hPL (by simp)
          have hrowL7 := row_old hrowL hk7 (by simp)
          go_wp2_with fail
          refine hK.out _ _ ?_ (fun hHeld => ?_)
          · exact ⟨hX7, hP7⟩
          clear hK K
          try simp only [Act.put, List.setIfInBounds_toArray, List.set_cons_zero, List.set_cons_succ]
          obtain ⟨v8, w8, hr8, ho8, hk8⟩ := append_row w7 W5.heap.size hk57.size _ [NM] hrowL7 (by simp) v7 TL hrow7 (by have := HTS.out.2; omega) hTL0
          have hF8 : ∀ y ∈ own (.slice (some ⟨W5.heap.size, 0, none⟩) 1 1), W5.heap.size ≤ y := fun y hy => (row_base hrowL7 y hy).1
          have hk08 := K5.out.trans (hk57.trans hk8 (fun y hy => .inr (hF8 y hy))) (FSub.refl _ _)
          have HX8 := Lib.hid (hk8.heap hX7 (fun hm => by have := hF8 _ hm; omega)); have HP8 := Lib.hid (hk8.heap hP7 (fun hm => by have := hF8 _ hm; omega))
          clear hk8 hF8 hrowL7 hrow7 hk7 hk57 hX7 hP7 hrowL hXL hPL
          have HJ := Lib.hid (Join6_any w8 v8 (NM :: TL) 32 ho8.strs (M := 1000) HTS.out.1 (by simp only [List.length_cons]; have := HTS.out.2; omega))
          have HR8 := Lib.hid hr8; have K8 := Lib.hid hk08
          clear hr8 ho8 hk08
          apply wpAnyH_ready (rs := [7])
          · kernel_rfl
          · simp
          apply AllReadyH.cons (hs := AllReadyH.nil)
          · simp only [List.getElem?_toArray]; rfl
          intro K hK
          rw [if_pos (by rfl)]
          refine wp_append_run _ _ 63 rfl _ _ _ _ rfl rfl HR8.out ?_
          refine hK.out _ _ ?_ (fun hHeld => ?_)
          · exact ⟨HX8.out, HP8.out⟩
          clear hK K
          try simp only [Act.put, List.setIfInBounds_toArray, List.set_cons_zero, List.set_cons_succ]
          apply wpAnyH_ready (rs := [8])
          · kernel_rfl
          · simp
          apply AllReadyH.cons (hs := AllReadyH.nil)
          · simp only [List.getElem?_toArray]; rfl
          intro K hK
          rw [if_pos (by rfl)]
          go_simp
          refine HJ.out.mono ?_; rintro e w9 ⟨rfl, hk9⟩
          have hk09 := K8.out.trans hk9 (FSub.refl _ _)
          have hX9 := hk9.heap HX8.out (by simp); have hP9 := hk9.heap HP8.out (by simp)
          go_wp2_with fail
          refine hK.out _ _ ?_ (fun hHeld => ?_)
          · exact ⟨hX9, hP9⟩
          clear hK K
          try simp only [Act.put, List.setIfInBounds_toArray, List.set_cons_zero, List.set_cons_succ]
          apply wpAnyH_ready (rs := [9])
          · kernel_rfl
          · simp
          apply AllReadyH.cons (hs := AllReadyH.nil)
          · simp only [List.getElem?_toArray]; rfl
          intro K hK
          rw [if_pos (by rfl)]
          go_simp
          refine hK.out _ _ ?_ (fun hHeld => ?_)
          · exact ⟨hX9, hP9⟩
          clear hK K
          try simp only [Act.put, List.setIfInBounds_toArray, List.set_cons_zero, List.set_cons_succ]
          apply wpAnyH_ready (rs := [10])
          · kernel_rfl
          · simp
          apply AllReadyH.cons (hs := AllReadyH.nil)
          · simp only [List.getElem?_toArray]; rfl
          intro K hK
          rw [if_pos (by rfl)]
          go_simp
          refine hK.out _ _ ?_ (fun hHeld => ?_)
          · exact ⟨hX9, hP9⟩
          clear hK K
          try simp only [Act.put, List.setIfInBounds_toArray, List.set_cons_zero, List.set_cons_succ]
          refine wpAnyH_done (by kernel_rfl) ?_ _
          refine NoPanic.normal ?_
          go_wp2_with fail
          go_ret2
          exact ⟨by rw [HRS.out]; rfl, hk09⟩
        case k6r =>
          intro K hK
          rw [if_pos (by rfl)]
          go_simp
          refine (HWD.out _ G5d.out T5d.out hN5).mono ?_; rintro e w7 ⟨v7, rfl, hrow7, hk7⟩
          have hk57 : Keeps [] W5 w7 := hk7.undrew
          have hX7 := hk57.heap HX5.out (by simp); have hP7 := hk57.heap HP5.out (by simp)
          have hB7 : B < w7.heap.size := lt_of_block hX7
          have hP77 : P < w7.heap.size := lt_of_block hP7
          go_wp2_with fail
          refine hK.out _ _ ?_ (fun hHeld => ?_)
          · exact ⟨hX7, hP7⟩
          clear hK K
          try simp only [Act.put, List.setIfInBounds_toArray, List.set_cons_zero, List.set_cons_succ]
          have hrowL : RowW w7.heap.size (w7.alloc (.cells #[.string (bs NM)] 9)) (.slice (some ⟨w7.heap.size, 0, none⟩) 1 1) [NM] := World.ownsRow_lit (base := w7.heap.size) (e := 9) (size := 1) w7 #[.string (bs NM)] 1 (Nat.le_refl _) (by decide) rfl
          have hkL : Keeps [] w7 (w7.alloc (.cells #[.string (bs NM)] 9)) := (Keeps.refl [] w7).alloc _
          have hXL := hkL.heap hX7 (by simp); have hPL := hkL.heap hP7 (by simp)
          have hrow7L := row_old hrow7 hkL (by simp)
          apply wpAnyH_ready (rs := [2])
          · kernel_rfl
          · simp
          apply AllReadyH.cons (hs := AllReadyH.nil)
          · simp only [List.getElem?_toArray]; rfl
          intro K hK
          rw [if_pos (by rfl)]
          go_simp
          generalize w7.alloc (.cells #[.string (bs NM)] 9) = W6 at *
          refine hK.out _ _ ?_ (fun hHeld => ?_)
          · exact ⟨hXL, hPL⟩
          clear hK K
          try simp only [Act.put, List.setIfInBounds_toArray, List.set_cons_zero, List.set_cons_succ]
          obtain ⟨v8, w8, hr8, ho8, hk8⟩ := append_row W6 w7.heap.size hkL.size _ [NM] hrowL (by simp) v7 TL hrow7L (by have := HTS.out.2; omega) hTL0
          have hF8 : ∀ y ∈ own (.slice (some ⟨w7.heap.size, 0, none⟩) 1 1), w7.heap.size ≤ y := fun y hy => (row_base hrowL y hy).1
          have hk08 := K5.out.trans ((hk57.trans hkL (FSub.refl _ _)).trans hk8 (fun y hy => .inr (by have := hF8 y hy; have := hk57.size; omega))) (FSub.refl _ _)
          have HX8 := Lib.hid (hk8.heap hXL (fun hm => by have := hF8 _ hm; omega)); have HP8 := Lib.hid (hk8.heap hPL (fun hm => by have := hF8 _ hm; omega))
          clear hk8 hF8 hrow7L hrow7 hk7 hk57 hX7 hP7 hrowL hXL hPL hkL
          have HJ := Lib.hid (Join6_any w8 v8 (NM :: TL) 32 ho8.strs (M := 1000) HTS.out.1 (by simp only [List.length_cons]; have := HTS.out.2; omega))
          have HR8 := Lib.hid hr8; have K8 := Lib.hid hk08
          clear hr8 ho8 hk08
          apply wpAnyH_ready (rs := [7])
          · kernel_rfl
          · simp
          apply AllReadyH.cons (hs := AllReadyH.nil)
          · simp only [List.getElem?_toArray]; rfl
          intro K hK
          rw [if_pos (by rfl)]
          refine wp_append_run _ _ 63 rfl _ _ _ _ rfl rfl HR8.out ?_
          refine hK.out _ _ ?_ (fun hHeld => ?_)
          · exact ⟨HX8.out, HP8.out⟩
          clear hK K
          try simp only [Act.put, List.setIfInBounds_toArray, List.set_cons_zero, List.set_cons_succ]
          apply wpAnyH_ready (rs := [8])
          · kernel_rfl
          · simp
          apply AllReadyH.cons (hs := AllReadyH.nil)
          · simp only [List.getElem?_toArray]; rfl
          intro K hK
          rw [if_pos (by rfl)]
          go_simp
          refine HJ.out.mono ?_; rintro e w9 ⟨rfl, hk9⟩
          have hk09 := K8.out.trans hk9 (FSub.refl _ _)
          have hX9 := hk9.heap HX8.out (by simp); have hP9 := hk9.heap HP8.out (by simp)
          go_wp2_with fail
          refine hK.out _ _ ?_ (fun hHeld => ?_)
          · exact ⟨hX9, hP9⟩
          clear hK K
          try simp only [Act.put, List.setIfInBounds_toArray, List.set_cons_zero, List.set_cons_succ]
          apply wpAnyH_ready (rs := [9])
          · kernel_rfl
          · simp
          apply AllReadyH.cons (hs := AllReadyH.nil)
          · simp only [List.getElem?_toArray]; rfl
          intro K hK
          rw [if_pos (by rfl)]
          go_simp
          refine hK.out _ _ ?_ (fun hHeld => ?_)
          · exact ⟨hX9, hP9⟩
          clear hK K
          try simp only [Act.put, List.setIfInBounds_toArray, List.set_cons_zero, List.set_cons_succ]
          apply wpAnyH_ready (rs := [10])
          · kernel_rfl
          · simp
          apply AllReadyH.cons (hs := AllReadyH.nil)
          · simp only [List.getElem?_toArray]; rfl
          intro K hK
          rw [if_pos (by rfl)]
          go_simp
          refine hK.out _ _ ?_ (fun hHeld => ?_)
          · exact ⟨hX9, hP9⟩
          clear hK K
          try simp only [Act.put, List.setIfInBounds_toArray, List.set_cons_zero, List.set_cons_succ]
          refine wpAnyH_done (by kernel_rfl) ?_ _
          refine NoPanic.normal ?_
          go_wp2_with fail
          go_ret2
          exact ⟨by rw [HRS.out]; rfl, hk09⟩
      case k4q =>
        intro K hK
        rw [if_pos (by rfl)]
        go_simp
        have hkP := hk3.alloc (.cells #[.string ⟨#[]⟩, .nilFunc, .nilFunc] 59)
        have hXP := hkP.heap HX2.out (by simp)
        have hPP := heap_alloc_new w3 (.cells #[.string ⟨#[]⟩, .nilFunc, .nilFunc] 59)
        have hBP : B < w3.heap.size := lt_of_block hX3
        have hPw : w2.heap.size ≤ w3.heap.size := hk3.size
        generalize w3.alloc (.cells #[.string ⟨#[]⟩, .nilFunc, .nilFunc] 59) = W4 at *
        generalize w3.heap.size = P at *
        refine hK.out _ _ ?_ (fun hHeld => ?_)
        · exact hXP
        clear hK K
        try simp only [Act.put, List.setIfInBounds_toArray, List.set_cons_zero, List.set_cons_succ]
        apply wpAnyH_ready (rs := [3])
        · kernel_rfl
        · simp
        apply AllReadyH.cons (hs := AllReadyH.nil)
        · simp only [List.getElem?_toArray]; rfl
        intro K hK
        rw [if_pos (by rfl)]
        go_simp
        go_wp2_with fail
        refine hK.out _ _ ?_ (fun hHeld => ?_)
        · exact hXP
        clear hK K
        try simp only [Act.put, List.setIfInBounds_toArray, List.set_cons_zero, List.set_cons_succ]
        apply wpAnyH_ready (rs := [5])
        · kernel_rfl
        · simp
        apply AllReadyH.cons (hs := AllReadyH.nil)
        · simp only [List.getElem?_toArray]; rfl
        intro K hK
        rw [if_pos (by rfl)]
        refine wp_put_rowO (T := 59) 3 rfl rfl rfl hPP ⟨rfl, HZ3.out⟩ (by kernel_rfl) HO3.out ?_
        intro W5 hP5 hk5
        have hX5 := hk5.heap hXP (by simp; omega)
        have HX5 := Lib.hid hX5; have HP5 := Lib.hid hP5
        have hk25 : Keeps [] w2 W5 := hkP.trans hk5 (fun y hy => .inr (by simp at hy; omega))
        have K5 := Lib.hid (HK2.out.trans hk25 (FSub.refl _ _)); have G5 := Lib.hid (HG2.out.new hk25); have T5 := Lib.hid (HT2.out.new hk25 hN2)
        have hN5 : N ≤ W5.heap.size := Nat.le_trans hN2 hk25.size
        have hB5 : B < W5.heap.size := lt_of_block hX5
        have hP55 : P < W5.heap.size := lt_of_block hP5
        refine hK.out _ _ ?_ (fun hHeld => ?_)
        · exact hX5
        clear hK K
        try simp only [Act.put, List.setIfInBounds_toArray, List.set_cons_zero, List.set_cons_succ]
        clear hk5 hP5 hX5 hk25 hkP hXP hPP hk3 hX3
        refine wpAnyH_done (by kernel_rfl) ?_ _
        refine NoPanic.normal ?_
        have hTL0 : TL ≠ [] := HTLN.out
        have G5d := Lib.hid (G5.out.new (Keeps.refl [] W5).drew)
        have T5d := Lib.hid (T5.out.new (Keeps.refl [] W5).drew hN5)
        go_wp2_with fail
        refine wp_region_noPanic ?_
        refine wp_region_held_drew (S := fun w' => w'.heap[B]? = some (.cells (evC x tx rd) 32 (0, 0)) ∧ w'.heap[P]? = some (.cells C 59 (0, 0))) (by kernel_rfl) ⟨HX5.out, HP5.out⟩ (fun hHeld => ?_)
        apply wpAnyH_take (i := 0) (v := .pointer (some ⟨P, 0, none⟩))
        · simp only [List.getElem?_toArray]; rfl
        · kernel_rfl
        · kernel_rfl
        · kernel_rfl
        · exact fun _ _ _ h => h
        · exact Or.inl ⟨by rfl, by intro w hSw; go_simp; try with_reducible rfl⟩
        · assumption
        try simp only [Act.put, List.setIfInBounds_toArray, List.set_cons_zero, List.set_cons_succ]
        apply wpAnyH_take (i := 1) (v := .string (bs NM))
        · simp only [List.getElem?_toArray]; rfl
        · kernel_rfl
        · kernel_rfl
        · kernel_rfl
        · exact fun _ _ _ h => h
        · exact Or.inl ⟨by rfl, by intro w hSw; have d0 : w.cell? ⟨P, 0, none⟩ = some (.string (bs NM)) := (by have := hSw.2; simp [World.cell?, this, H30.out]); go_simp; try with_reducible rfl⟩
        · assumption
        try simp only [Act.put, List.setIfInBounds_toArray, List.set_cons_zero, List.set_cons_succ]
        apply wpAnyH_take (i := 3) (v := .pointer (some ⟨P, 1, none⟩))
        · simp only [List.getElem?_toArray]; rfl
        · kernel_rfl
        · kernel_rfl
        · kernel_rfl
        · exact fun _ _ _ h => h
        · exact Or.inl ⟨by rfl, by intro w hSw; go_simp; try with_reducible rfl⟩
        · assumption
        try simp only [Act.put, List.setIfInBounds_toArray, List.set_cons_zero, List.set_cons_succ]
        apply wpAnyH_take (i := 4) (v := .func (.func KW) #[] #[])
        · simp only [List.getElem?_toArray]; rfl
        · kernel_rfl
        · kernel_rfl
        · kernel_rfl
        · exact fun _ _ _ h => h
        · exact Or.inl ⟨by rfl, by intro w hSw; have d0 : w.cell? ⟨P, 1, none⟩ = some (.func (.func KW) #[] #[]) := (by have := hSw.2; simp [World.cell?, this, H31.out]); go_simp; try with_reducible rfl⟩
        · assumption
        try simp only [Act.put, List.setIfInBounds_toArray, List.set_cons_zero, List.set_cons_succ]
        apply wpAnyH_take (i := 5) (v := .agg (evC x tx rd))
        · simp only [List.getElem?_toArray]; rfl
        · kernel_rfl
        · kernel_rfl
        · kernel_rfl
        · exact fun _ _ _ h => h
        · exact yields_ev (by rfl) _ rfl B rfl (fun w hSw => ev_load hSw.1)
        · assumption
        try simp only [Act.put, List.setIfInBounds_toArray, List.set_cons_zero, List.set_cons_succ]
        apply wpAnyH_ready (rs := [2, 6])
        · kernel_rfl
        · simp
        refine AllReadyH.cons (o := ?o2r) ?h2r ?k2r (AllReadyH.cons (o := ?o6r) ?h6r ?k6r AllReadyH.nil)
        case h2r => simp only [List.getElem?_toArray]; rfl
        case h6r => simp only [List.getElem?_toArray]; rfl
        case k2r =>
          intro K hK
          rw [if_pos (by rfl)]
          go_simp
          have hrowL : RowW W5.heap.size ((W5.alloc (.cells #[.string (bs NM)] 9)).drew) (.slice (some ⟨W5.heap.size, 0, none⟩) 1 1) [NM] := World.ownsRow_lit (base := W5.heap.size) (e := 9) (size := 1) W5 #[.string (bs NM)] 1 (Nat.le_refl _) (by decide) rfl
          have hkL : Keeps [] W5 ((W5.alloc (.cells #[.string (bs NM)] 9)).drew) := ((Keeps.refl [] W5).alloc _).drew
          have hXL := hkL.heap HX5.out (by simp); have hPL := hkL.heap HP5.out (by simp)
          have hGL := G5.out.new hkL
          have hTL := T5.out.new hkL hN5
          have hNL : N ≤ ((W5.alloc (.cells #[.string (bs NM)] 9)).drew).heap.size := Nat.le_trans hN5 hkL.size
          have hBL : B < ((W5.alloc (.cells #[.string (bs NM)] 9)).drew).heap.size := lt_of_block hXL
          have hPPL : P < ((W5.alloc (.cells #[.string (bs NM)] 9)).drew).heap.size := lt_of_block hPL
          generalize (W5.alloc (.cells #[.string (bs NM)] 9)).drew = W6 at *
          refine hK.out _ _ ?_ (fun hHeld => ?_)
          · exact ⟨hXL, hPL⟩
          clear hK K
          try simp only [Act.put, List.setIfInBounds_toArray, List.set_cons_zero, List.set_cons_succ]
          apply wpAnyH_ready (rs := [6])
          · kernel_rfl
          · simp
          apply AllReadyH.cons (hs := AllReadyH.nil)
          · simp only [List.getElem?_toArray]; rfl
          intro K hK
          rw [if_pos (by rfl)]
          go_simp
          refine (HWD.out _ hGL hTL hNL).mono ?_; rintro e w7 ⟨v7, rfl, hrow7, hk7⟩
          have hk57 := hkL.trans hk7 (FSub.refl _ _)
          have hX7 := hk7.heap hXL (by simp); have hP7 := hk7.heap hPL (by simp)
          have hrowL7 := row_old hrowL hk7 (by simp)
          go_wp2_with fail
          refine hK.out _ _ ?_ (fun hHeld => ?_)
          · exact ⟨hX7, hP7⟩
          clear hK K
          try simp only [Act.put, List.setIfInBounds_toArray, List.set_cons_zero, List.set_cons_succ]
          obtain ⟨v8, w8, hr8, ho8, hk8⟩ := append_row w7 W5.heap.size hk57.size _ [NM] hrowL7 (by simp) v7 TL hrow7 (by have := HTS.out.2; omega) hTL0
          have hF8 : ∀ y ∈ own (.slice (some ⟨W5.heap.size, 0, none⟩) 1 1), W5.heap.size ≤ y := fun y hy => (row_base hrowL7 y hy).1
          have hk08 := K5.out.trans (hk57.trans hk8 (fun y hy => .inr (hF8 y hy))) (FSub.refl _ _)
          have HX8 := Lib.hid (hk8.heap hX7 (fun hm => by have := hF8 _ hm; omega)); have HP8 := Lib.hid (hk8.heap hP7 (fun hm => by have := hF8 _ hm; omega))
          clear hk8 hF8 hrowL7 hrow7 hk7 hk57 hX7 hP7 hrowL hXL hPL
          have HJ := Lib.hid (Join6_any w8 v8 (NM :: TL) 32 ho8.strs (M := 1000) HTS.out.1 (by simp only [List.length_cons]; have := HTS.out.2; omega))
          have HR8 := Lib.hid hr8; have K8 := Lib.hid hk08
          clear hr8 ho8 hk08
          apply wpAnyH_ready (rs := [7])
          · kernel_rfl
          · simp
          apply AllReadyH.cons (hs := AllReadyH.nil)
          · simp only [List.getElem?_toArray]; rfl
          intro K hK
          rw [if_pos (by rfl)]
          refine wp_append_run _ _ 63 rfl _ _ _ _ rfl rfl HR8.out ?_
          refine hK.out _ _ ?_ (fun hHeld => ?_)
          · exact ⟨HX8.out, HP8.out⟩
          clear hK K
          try simp only [Act.put, List.setIfInBounds_toArray, List.set_cons_zero, List.set_cons_succ]
          apply wpAnyH_ready (rs := [8])
          · kernel_rfl
          · simp
          apply AllReadyH.cons (hs := AllReadyH.nil)
          · simp only [List.getElem?_toArray]; rfl
          intro K hK
          rw [if_pos (by rfl)]
          go_simp
          refine HJ.out.mono ?_; rintro e w9 ⟨rfl, hk9⟩
          have hk09 := K8.out.trans hk9 (FSub.refl _ _)
          have hX9 := hk9.heap HX8.out (by simp); have hP9 := hk9.heap HP8.out (by simp)
          go_wp2_with fail
          refine hK.out _ _ ?_ (fun hHeld => ?_)
          · exact ⟨hX9, hP9⟩
          clear hK K
          try simp only [Act.put, List.setIfInBounds_toArray, List.set_cons_zero, List.set_cons_succ]
          apply wpAnyH_ready (rs := [9])
          · kernel_rfl
          · simp
          apply AllReadyH.cons (hs := AllReadyH.nil)
          · simp only [List.getElem?_toArray]; rfl
          intro K hK
          rw [if_pos (by rfl)]
          go_simp
          refine hK.out _ _ ?_ (fun hHeld => ?_)
          · exact ⟨hX9, hP9⟩
          clear hK K
          try simp only [Act.put, List.setIfInBounds_toArray, List.set_cons_zero, List.set_cons_succ]
          apply wpAnyH_ready (rs := [10])
          · kernel_rfl
          · simp
          apply AllReadyH.cons (hs := AllReadyH.nil)
          · simp only [List.getElem?_toArray]; rfl
          intro K hK
          rw [if_pos (by rfl)]
          go_simp
          refine hK.out _ _ ?_ (fun hHeld => ?_)
          · exact ⟨hX9, hP9⟩
          clear hK K
          try simp only [Act.put, List.setIfInBounds_toArray, List.set_cons_zero, List.set_cons_succ]
          refine wpAnyH_done (by kernel_rfl) ?_ _
          refine NoPanic.normal ?_
          go_wp2_with fail
          go_ret2
          exact ⟨by rw [HRS.out]; rfl, hk09⟩
        case k6r =>
          intro K hK
          rw [if_pos (by rfl)]
          go_simp
          refine (HWD.out _ G5d.out T5d.out hN5).mono ?_; rintro e w7 ⟨v7, rfl, hrow7, hk7⟩
          have hk57 : Keeps [] W5 w7 := hk7.undrew
          have hX7 := hk57.heap HX5.out (by simp); have hP7 := hk57.heap HP5.out (by simp)
          have hB7 : B < w7.heap.size := lt_of_block hX7
          have hP77 : P < w7.heap.size := lt_of_block hP7
          go_wp2_with fail
          refine hK.out _ _ ?_ (fun hHeld => ?_)
          · exact ⟨hX7, hP7⟩
          clear hK K
          try simp only [Act.put, List.setIfInBounds_toArray, List.set_cons_zero, List.set_cons_succ]
          have hrowL : RowW w7.heap.size (w7.alloc (.cells #[.string (bs NM)] 9)) (.slice (some ⟨w7.heap.size, 0, none⟩) 1 1) [NM] := World.ownsRow_lit (base := w7.heap.size) (e := 9) (size := 1) w7 #[.string (bs NM)] 1 (Nat.le_refl _) (by decide) rfl
          have hkL : Keeps [] w7 (w7.alloc (.cells #[.string (bs NM)] 9)) := (Keeps.refl [] w7).alloc _
          have hXL := hkL.heap hX7 (by simp); have hPL := hkL.heap hP7 (by simp)
          have hrow7L := row_old hrow7 hkL (by simp)
          apply wpAnyH_ready (rs := [2])
          · kernel_rfl
          · simp
          apply AllReadyH.cons (hs := AllReadyH.nil)
          · simp only [List.getElem?_toArray]; rfl
          intro K hK
          rw [if_pos (by rfl)]
          go_simp
          generalize w7.alloc (.cells #[.string (bs NM)] 9) = W6 at *
          refine hK.out _ _ ?_ (fun hHeld => ?_)
          · exact ⟨hXL, hPL⟩
          clear hK K
          try simp only [Act.put, List.setIfInBounds_toArray, List.set_cons_zero, List.set_cons_succ]
          obtain ⟨v8, w8, hr8, ho8, hk8⟩ := append_row W6 w7.heap.size hkL.size _ [NM] hrowL (by simp) v7 TL hrow7L (by have := HTS.out.2; omega) hTL0
          have hF8 : ∀ y ∈ own (.slice (some ⟨w7.heap.size, 0, none⟩) 1 1), w7.heap.size ≤ y := fun y hy => (row_base hrowL y hy).1
          have hk08 := K5.out.trans ((hk57.trans hkL (FSub.refl _ _)).trans hk8 (fun y hy => .inr (by have := hF8 y hy; have := hk57.size; omega))) (FSub.refl _ _)
          have HX8 := Lib.hid (hk8.heap hXL (fun hm => by have := hF8 _ hm; omega)); have HP8 := Lib.hid (hk8.heap hPL (fun hm => by have := hF8 _ hm; omega))
          clear hk8 hF8 hrow7L hrow7 hk7 hk57 hX7 hP7 hrowL hXL hPL hkL
          have HJ := Lib.hid (Join6_any w8 v8 (NM :: TL) 32 ho8.strs (M := 1000) HTS.out.1 (by simp only [List.length_cons]; have := HTS.out.2; omega))
          have HR8 := Lib.hid hr8; have K8 := Lib.hid hk08
          clear hr8 ho8 hk08
          apply wpAnyH_ready (rs := [7])
          · kernel_rfl
          · simp
          apply AllReadyH.cons (hs := AllReadyH.nil)
          · simp only [List.getElem?_toArray]; rfl
          intro K hK
          rw [if_pos (by rfl)]
          refine wp_append_run _ _ 63 rfl _ _ _ _ rfl rfl HR8.out ?_
          refine hK.out _ _ ?_ (fun hHeld => ?_)
          · exact ⟨HX8.out, HP8.out⟩
          clear hK K
          try simp only [Act.put, List.setIfInBounds_toArray, List.set_cons_zero, List.set_cons_succ]
          apply wpAnyH_ready (rs := [8])
          · kernel_rfl
          · simp
          apply AllReadyH.cons (hs := AllReadyH.nil)
          · simp only [List.getElem?_toArray]; rfl
          intro K hK
          rw [if_pos (by rfl)]
          go_simp
          refine HJ.out.mono ?_; rintro e w9 ⟨rfl, hk9⟩
          have hk09 := K8.out.trans hk9 (FSub.refl _ _)
          have hX9 := hk9.heap HX8.out (by simp); have hP9 := hk9.heap HP8.out (by simp)
          go_wp2_with fail
          refine hK.out _ _ ?_ (fun hHeld => ?_)
          · exact ⟨hX9, hP9⟩
          clear hK K
          try simp only [Act.put, List.setIfInBounds_toArray, List.set_cons_zero, List.set_cons_succ]
          apply wpAnyH_ready (rs := [9])
          · kernel_rfl
          · simp
          apply AllReadyH.cons (hs := AllReadyH.nil)
          · simp only [List.getElem?_toArray]; rfl
          intro K hK
          rw [if_pos (by rfl)]
          go_simp
          refine hK.out _ _ ?_ (fun hHeld => ?_)
          · exact ⟨hX9, hP9⟩
          clear hK K
          try simp only [Act.put, List.setIfInBounds_toArray, List.set_cons_zero, List.set_cons_succ]
          apply wpAnyH_ready (rs := [10])
          · kernel_rfl
          · simp
          apply AllReadyH.cons (hs := AllReadyH.nil)
          · simp only [List.getElem?_toArray]; rfl
          intro K hK
          rw [if_pos (by rfl)]
          go_simp
          refine hK.out _ _ ?_ (fun hHeld => ?_)
          · exact ⟨hX9, hP9⟩
          clear hK K
          try simp only [Act.put, List.setIfInBounds_toArray, List.set_cons_zero, List.set_cons_succ]
          refine wpAnyH_done (by kernel_rfl) ?_ _
          refine NoPanic.normal ?_
          go_wp2_with fail
          go_ret2
          exact ⟨by rw [HRS.out]; rfl, hk09⟩
    case k4 =>
      intro K hK
      rw [if_pos (by rfl)]
      go_simp
      have hk3 : Keeps [] w2 ((w2.alloc (.cells #[.string ⟨#[]⟩, .nilFunc, .nilFunc] 59)).drew) := ((Keeps.refl [] w2).alloc _).drew
      have hX3 := hk3.heap HX2.out (by simp)
      have hP3 := heap_alloc_new w2 (.cells #[.string ⟨#[]⟩, .nilFunc, .nilFunc] 59)
      replace hP3 : ((w2.alloc (.cells #[.string ⟨#[]⟩, .nilFunc, .nilFunc] 59)).drew).heap[w2.heap.size]? = some (.cells #[.string ⟨#[]⟩, .nilFunc, .nilFunc] 59 (0, 0)) := hP3
      generalize (w2.alloc (.cells #[.string ⟨#[]⟩, .nilFunc, .nilFunc] 59)).drew = w3 at *
      have hPw : w2.heap.size ≤ w2.heap.size := Nat.le_refl _
      have hBP : B < w2.heap.size := hBw
      generalize hPe : w2.heap.size = P at *
      replace hN2 : N ≤ w2.heap.size := by omega
      replace hPw : w2.heap.size ≤ P := by omega
      refine hK.out _ _ ?_ (fun hHeld => ?_)
      · exact hX3
      clear hK K
      try simp only [Act.put, List.setIfInBounds_toArray, List.set_cons_zero, List.set_cons_succ]
      apply wpAnyH_ready (rs := [0])
      · kernel_rfl
      · simp
      apply AllReadyH.cons (hs := AllReadyH.nil)
      · simp only [List.getElem?_toArray]; rfl
      intro K hK
      rw [if_pos (by rfl)]
      go_simp
      refine (txKinds_any _).mono ?_; rintro e W4 ⟨rfl, hk4⟩
      rw [HKC.out]
      have hkP := hk3.trans hk4 (FSub.refl _ _)
      have hXP := hk4.heap hX3 (by simp)
      have hPP := hk4.heap hP3 (by simp)
      go_wp2_with fail
      refine hK.out _ _ ?_ (fun hHeld => ?_)
      · exact hXP
      clear hK K
      try simp only [Act.put, List.setIfInBounds_toArray, List.set_cons_zero, List.set_cons_succ]
      apply wpAnyH_ready (rs := [3])
      · kernel_rfl
      · simp
      apply AllReadyH.cons (hs := AllReadyH.nil)
      · simp only [List.getElem?_toArray]; rfl
      intro K hK
      rw [if_pos (by rfl)]
      go_simp
      go_wp2_with fail
      refine hK.out _ _ ?_ (fun hHeld => ?_)
      · exact hXP
      clear hK K
      try simp only [Act.put, List.setIfInBounds_toArray, List.set_cons_zero, List.set_cons_succ]
      apply wpAnyH_ready (rs := [5])
      · kernel_rfl
      · simp
      apply AllReadyH.cons (hs := AllReadyH.nil)
      · simp only [List.getElem?_toArray]; rfl
      intro K hK
      rw [if_pos (by rfl)]
      refine wp_put_rowO (T := 59) 3 rfl rfl rfl hPP ⟨rfl, HZ3.out⟩ (by kernel_rfl) HO3.out ?_
      intro W5 hP5 hk5
      have hX5 := hk5.heap hXP (by simp; omega)
      have HX5 := Lib.hid hX5; have HP5 := Lib.hid hP5
      have hk25 : Keeps [] w2 W5 := hkP.trans hk5 (fun y hy => .inr (by simp at hy; omega))
      have K5 := Lib.hid (HK2.out.trans hk25 (FSub.refl _ _)); have G5 := Lib.hid (HG2.out.new hk25); have T5 := Lib.hid (HT2.out.new hk25 hN2)
      have hN5 : N ≤ W5.heap.size := Nat.le_trans hN2 hk25.size
      have hB5 : B < W5.heap.size := lt_of_block hX5
      have hP55 : P < W5.heap.size := lt_of_block hP5
      refine hK.out _ _ ?_ (fun hHeld => ?_)
      · exact hX5
      clear hK K
      try simp only [Act.put, List.setIfInBounds_toArray, List.set_cons_zero, List.set_cons_succ]
      clear hk5 hP5 hX5 hk25 hkP hXP hPP hk3 hX3
      refine wpAnyH_done (by kernel_rfl) ?_ _
      refine NoPanic.normal ?_
      have hTL0 : TL ≠ [] := HTLN.out
      have G5d := Lib.hid (G5.out.new (Keeps.refl [] W5).drew)
      have T5d := Lib.hid (T5.out.new (Keeps.refl [] W5).drew hN5)
      go_wp2_with fail
      refine wp_region_noPanic ?_
      refine wp_region_held_drew (S := fun w' => w'.heap[B]? = some (.cells (evC x tx rd) 32 (0, 0)) ∧ w'.heap[P]? = some (.cells C 59 (0, 0))) (by kernel_rfl) ⟨HX5.out, HP5.out⟩ (fun hHeld => ?_)
      apply wpAnyH_take (i := 0) (v := .pointer (some ⟨P, 0, none⟩))
      · simp only [List.getElem?_toArray]; rfl
      · kernel_rfl
      · kernel_rfl
      · kernel_rfl
      · exact fun _ _ _ h => h
      · exact Or.inl ⟨by rfl, by intro w hSw; go_simp; try with_reducible rfl⟩
      · assumption
      try simp only [Act.put, List.setIfInBounds_toArray, List.set_cons_zero, List.set_cons_succ]
      apply wpAnyH_take (i := 1) (v := .string (bs NM))
      · simp only [List.getElem?_toArray]; rfl
      · kernel_rfl
      · kernel_rfl
      · kernel_rfl
      · exact fun _ _ _ h => h
      · exact Or.inl ⟨by rfl, by intro w hSw; have d0 : w.cell? ⟨P, 0, none⟩ = some (.string (bs NM)) := (by have := hSw.2; simp [World.cell?, this, H30.out]); go_simp; try with_reducible rfl⟩
      · assumption
      try simp only [Act.put, List.setIfInBounds_toArray, List.set_cons_zero, List.set_cons_succ]
      apply wpAnyH_take (i := 3) (v := .pointer (some ⟨P, 1, none⟩))
      · simp only [List.getElem?_toArray]; rfl
      · kernel_rfl
      · kernel_rfl
      · kernel_rfl
      · exact fun _ _ _ h => h
      · exact Or.inl ⟨by rfl, by intro w hSw; go_simp; try with_reducible rfl⟩
      · assumption
      try simp only [Act.put, List.setIfInBounds_toArray, List.set_cons_zero, List.set_cons_succ]
      apply wpAnyH_take (i := 4) (v := .func (.func KW) #[] #[])
      · simp only [List.getElem?_toArray]; rfl
      · kernel_rfl
      · kernel_rfl
      · kernel_rfl
      · exact fun _ _ _ h => h
      · exact Or.inl ⟨by rfl, by intro w hSw; have d0 : w.cell? ⟨P, 1, none⟩ = some (.func (.func KW) #[] #[]) := (by have := hSw.2; simp [World.cell?, this, H31.out]); go_simp; try with_reducible rfl⟩
      · assumption
      try simp only [Act.put, List.setIfInBounds_toArray, List.set_cons_zero, List.set_cons_succ]
      apply wpAnyH_take (i := 5) (v := .agg (evC x tx rd))
      · simp only [List.getElem?_toArray]; rfl
      · kernel_rfl
      · kernel_rfl
      · kernel_rfl
      · exact fun _ _ _ h => h
      · exact yields_ev (by rfl) _ rfl B rfl (fun w hSw => ev_load hSw.1)
      · assumption
      try simp only [Act.put, List.setIfInBounds_toArray, List.set_cons_zero, List.set_cons_succ]
      apply wpAnyH_ready (rs := [2, 6])
      · kernel_rfl
      · simp
      refine AllReadyH.cons (o := ?o2r) ?h2r ?k2r (AllReadyH.cons (o := ?o6r) ?h6r ?k6r AllReadyH.nil)
      case h2r => simp only [List.getElem?_toArray]; rfl
      case h6r => simp only [List.getElem?_toArray]; rfl
      case k2r =>
        intro K hK
        rw [if_pos (by rfl)]
        go_simp
        have hrowL : RowW W5.heap.size ((W5.alloc (.cells #[.string (bs NM)] 9)).drew) (.slice (some ⟨W5.heap.size, 0, none⟩) 1 1) [NM] := World.ownsRow_lit (base := W5.heap.size) (e := 9) (size := 1) W5 #[.string (bs NM)] 1 (Nat.le_refl _) (by decide) rfl
        have hkL : Keeps [] W5 ((W5.alloc (.cells #[.string (bs NM)] 9)).drew) := ((Keeps.refl [] W5).alloc _).drew
        have hXL := hkL.heap HX5.out (by simp); have hPL := hkL.heap HP5.out (by simp)
        have hGL := G5.out.new hkL
        have hTL := T5.out.new hkL hN5
        have hNL : N ≤ ((W5.alloc (.cells #[.string (bs NM)] 9)).drew).heap.size := Nat.le_trans hN5 hkL.size
        have hBL : B < ((W5.alloc (.cells #[.string (bs NM)] 9)).drew).heap.size := lt_of_block hXL
        have hPPL : P < ((W5.alloc (.cells #[.string (bs NM)] 9)).drew).heap.size := lt_of_block hPL
        generalize (W5.alloc (.cells #[.string (bs NM)] 9)).drew = W6 at *
        refine hK.out _ _ ?_ (fun hHeld => ?_)
        · exact ⟨hXL, hPL⟩
        clear hK K
        try simp only [Act.put, List.setIfInBounds_toArray, List.set_cons_zero, List.set_cons_succ]
        apply wpAnyH_ready (rs := [6])
        · kernel_rfl
        · simp
        apply AllReadyH.cons (hs := AllReadyH.nil)
        · simp only [List.getElem?_toArray]; rfl
        intro K hK
        rw [if_pos (by rfl)]
        go_simp
        refine (HWD.out _ hGL hTL hNL).mono ?_; rintro e w7 ⟨v7, rfl, hrow7, hk7⟩
        have hk57 := hkL.trans hk7 (FSub.refl _ _)
        have hX7 := hk7.heap hXL (by simp); have hP7 := hk7.heap hPL (by simp)
        have hrowL7 := row_old hrowL hk7 (by simp)
        go_wp2_with fail
        refine hK.out _ _ ?_ (fun hHeld => ?_)
        · exact ⟨hX7, hP7⟩
        clear hK K
        try simp only [Act.put, List.setIfInBounds_toArray, List.set_cons_zero, List.set_cons_succ]
        obtain ⟨v8, w8, hr8, ho8, hk8⟩ := append_row w7 W5.heap.size hk57.size _ [NM] hrowL7 (by simp) v7 TL hrow7 (by have := HTS.out.2; omega) hTL0
        have hF8 : ∀ y ∈ own (.slice (some ⟨W5.heap.size, 0, none⟩) 1 1), W5.heap.size ≤ y := fun y hy => (row_base hrowL7 y hy).1
        have hk08 := K5.out.trans (hk57.trans hk8 (fun y hy => .inr (hF8 y hy))) (FSub.refl _ _)
        have HX8 := Lib.hid (hk8.heap hX7 (fun hm => by have := hF8 _ hm; omega)); have HP8 := Lib.hid (hk8.heap hP7 (fun hm => by have := hF8 _ hm; omega))
        clear hk8 hF8 hrowL7 hrow7 hk7 hk57 hX7 hP7 hrowL hXL hPL
        have HJ := Lib.hid (Join6_any w8 v8 (NM :: TL) 32 ho8.strs (M := 1000) HTS.out.1 (by simp only [List.length_cons]; have := HTS.out.2; omega))
        have HR8 := Lib.hid hr8; have K8 := Lib.hid hk08
        clear hr8 ho8 hk08
        apply wpAnyH_ready (rs := [7])
        · kernel_rfl
        · simp
        apply AllReadyH.cons (hs := AllReadyH.nil)
        · simp only [List.getElem?_toArray]; rfl
        intro K hK
        rw [if_pos (by rfl)]
        refine wp_append_run _ _ 63 rfl _ _ _ _ rfl rfl HR8.out ?_
        refine hK.out _ _ ?_ (fun hHeld => ?_)
        · exact ⟨HX8.out, HP8.out⟩
        clear hK K
        try simp only [Act.put, List.setIfInBounds_toArray, List.set_cons_zero, List.set_cons_succ]
        apply wpAnyH_ready (rs := [8])
        · kernel_rfl
        · simp
        apply AllReadyH.cons (hs := AllReadyH.nil)
        · simp only [List.getElem?_toArray]; rfl
        intro K hK
        rw [if_pos (by rfl)]
        go_simp
        refine HJ.out.mono ?_; rintro e w9 ⟨rfl, hk9⟩
        have hk09 := K8.out.trans hk9 (FSub.refl _ _)
        have hX9 := hk9.heap HX8.out (by simp); have hP9 := hk9.heap HP8.out (by simp)
        go_wp2_with fail
        refine hK.out _ _ ?_ (fun hHeld => ?_)
        · exact ⟨hX9, hP9⟩
        clear hK K
        try simp only [Act.put, List.setIfInBounds_toArray, List.set_cons_zero, List.set_cons_succ]
        apply wpAnyH_ready (rs := [9])
        · kernel_rfl
        · simp
        apply AllReadyH.cons (hs := AllReadyH.nil)
        · simp only [List.getElem?_toArray]; rfl
        intro K hK
        rw [if_pos (by rfl)]
        go_simp
        refine hK.out _ _ ?_ (fun hHeld => ?_)
        · exact ⟨hX9, hP9⟩
        clear hK K
        try simp only [Act.put, List.setIfInBounds_toArray, List.set_cons_zero, List.set_cons_succ]
        apply wpAnyH_ready (rs := [10])
        · kernel_rfl
        · simp
        apply AllReadyH.cons (hs := AllReadyH.nil)
        · simp only [List.getElem?_toArray]; rfl
        intro K hK
        rw [if_pos (by rfl)]
        go_simp
        refine hK.out _ _ ?_ (fun hHeld => ?_)
        · exact ⟨hX9, hP9⟩
        clear hK K
        try simp only [Act.put, List.setIfInBounds_toArray, List.set_cons_zero, List.set_cons_succ]
        refine wpAnyH_done (by kernel_rfl) ?_ _
        refine NoPanic.normal ?_
        go_wp2_with fail
        go_ret2
        exact ⟨by rw [HRS.out]; rfl, hk09⟩
      case k6r =>
        intro K hK
        rw [if_pos (by rfl)]
        go_simp
        refine (HWD.out _ G5d.out T5d.out hN5).mono ?_; rintro e w7 ⟨v7, rfl, hrow7, hk7⟩
        have hk57 : Keeps [] W5 w7 := hk7.undrew
        have hX7 := hk57.heap HX5.out (by simp); have hP7 := hk57.heap HP5.out (by simp)
        have hB7 : B < w7.heap.size := lt_of_block hX7
        have hP77 : P < w7.heap.size := lt_of_block hP7
        go_wp2_with fail
        refine hK.out _ _ ?_ (fun hHeld => ?_)
        · exact ⟨hX7, hP7⟩
        clear hK K
        try simp only [Act.put, List.setIfInBounds_toArray, List.set_cons_zero, List.set_cons_succ]
        have hrowL : RowW w7.heap.size (w7.alloc (.cells #[.string (bs NM)] 9)) (.slice (some ⟨w7.heap.size, 0, none⟩) 1 1) [NM] := World.ownsRow_lit (base := w7.heap.size) (e := 9) (size := 1) w7 #[.string (bs NM)] 1 (Nat.le_refl _) (by decide) rfl
        have hkL : Keeps [] w7 (w7.alloc (.cells #[.string (bs NM)] 9)) := (Keeps.refl [] w7).alloc _
        have hXL := hkL.heap hX7 (by simp); have hPL := hkL.heap hP7 (by simp)
        have hrow7L := row_old hrow7 hkL (by simp)
        apply wpAnyH_ready (rs := [2])
        · kernel_rfl
        · simp
        apply AllReadyH.cons (hs := AllReadyH.nil)
        · simp only [List.getElem?_toArray]; rfl
        intro K hK
        rw [if_pos (by rfl)]
        go_simp
        generalize w7.alloc (.cells #[.string (bs NM)] 9) = W6 at *
        refine hK.out _ _ ?_ (fun hHeld => ?_)
        · exact ⟨hXL, hPL⟩
        clear hK K
        try simp only [Act.put, List.setIfInBounds_toArray, List.set_cons_zero, List.set_cons_succ]
        obtain ⟨v8, w8, hr8, ho8, hk8⟩ := append_row W6 w7.heap.size hkL.size _ [NM] hrowL (by simp) v7 TL hrow7L (by have := HTS.out.2; omega) hTL0
        have hF8 : ∀ y ∈ own (.slice (some ⟨w7.heap.size, 0, none⟩) 1 1), w7.heap.size ≤ y := fun y hy => (row_base hrowL y hy).1
        have hk08 := K5.out.trans ((hk57.trans hkL (FSub.refl _ _)).trans hk8 (fun y hy => .inr (by have := hF8 y hy; have := hk57.size; omega))) (FSub.refl _ _)
        have HX8 := Lib.hid (hk8.heap hXL (fun hm => by have := hF8 _ hm; omega)); have HP8 := Lib.hid (hk8.heap hPL (fun hm => by have := hF8 _ hm; omega))
        clear hk8 hF8 hrow7L hrow7 hk7 hk57 hX7 hP7 hrowL hXL hPL hkL
        have HJ := Lib.hid (Join6_any w8 v8 (NM :: TL) 32 ho8.strs (M := 1000) HTS.out.1 (by simp only [List.length_cons]; have := HTS.out.2; omega))
        have HR8 := Lib.hid hr8; have K8 := Lib.hid hk08
        clear hr8 ho8 hk08
        apply wpAnyH_ready (rs := [7])
        · kernel_rfl
        · simp
        apply AllReadyH.cons (hs := AllReadyH.nil)
        · simp only [List.getElem?_toArray]; rfl
        intro K hK
        rw [if_pos (by rfl)]
        refine wp_append_run _ _ 63 rfl _ _ _ _ rfl rfl HR8.out ?_
        refine hK.out _ _ ?_ (fun hHeld => ?_)
        · exact ⟨HX8.out, HP8.out⟩
        clear hK K
        try simp only [Act.put, List.setIfInBounds_toArray, List.set_cons_zero, List.set_cons_succ]
        apply wpAnyH_ready (rs := [8])
        · kernel_rfl
        · simp
        apply AllReadyH.cons (hs := AllReadyH.nil)
        · simp only [List.getElem?_toArray]; rfl
        intro K hK
        rw [if_pos (by rfl)]
        go_simp
        refine HJ.out.mono ?_; rintro e w9 ⟨rfl, hk9⟩
        have hk09 := K8.out.trans hk9 (FSub.refl _ _)
        have hX9 := hk9.heap HX8.out (by simp); have hP9 := hk9.heap HP8.out (by simp)
        go_wp2_with fail
        refine hK.out _ _ ?_ (fun hHeld => ?_)
        · exact ⟨hX9, hP9⟩
        clear hK K
        try simp only [Act.put, List.setIfInBounds_toArray, List.set_cons_zero, List.set_cons_succ]
        apply wpAnyH_ready (rs := [9])
        · kernel_rfl
        · simp
        apply AllReadyH.cons (hs := AllReadyH.nil)
        · simp only [List.getElem?_toArray]; rfl
        intro K hK
        rw [if_pos (by rfl)]
        go_simp
        refine hK.out _ _ ?_ (fun hHeld => ?_)
        · exact ⟨hX9, hP9⟩
        clear hK K
        try simp only [Act.put, List.setIfInBounds_toArray, List.set_cons_zero, List.set_cons_succ]
        apply wpAnyH_ready (rs := [10])
        · kernel_rfl
        · simp
        apply AllReadyH.cons (hs := AllReadyH.nil)
        · simp only [List.getElem?_toArray]; rfl
        intro K hK
        rw [if_pos (by rfl)]
        go_simp
        refine hK.out _ _ ?_ (fun hHeld => ?_)
        · exact ⟨hX9, hP9⟩
        clear hK K
        try simp only [Act.put, List.setIfInBounds_toArray, List.set_cons_zero, List.set_cons_succ]
        refine wpAnyH_done (by kernel_rfl) ?_ _
        refine NoPanic.normal ?_
        go_wp2_with fail
        go_ret2
        exact ⟨by rw [HRS.out]; rfl, hk09⟩
end Go.Proofs.YtffldnjjijckcaaGreatDoor
/-
  The laws' functions: is, unparsed, works, few. (Printed by draft/genis6.py.)
-/
namespace Go.Proofs.YtffldnjjijckcaaGreatDoor
open Go.RowKit
theorem wpList_load_evG6 {ops : Array Oper} {rest : List Oper} {a : Act} {w : World} {Q : Exit → Act → World → Prop} {dst : Option Tmp} {ty : TypeId} {pos : String} {after : Array Edge} {gd : Option (Nat × Bool)} {x : Operand} {g : Nat} {cells : Array Value} {t : TypeId} {fr : Nat × Nat}
    (hw : Region.wanted { dst := dst, op := .load 32 x, type := ty, pos := pos, after := after, guard := gd } (yielded ops a.tmps) = true)
    (hx : a.eval x = .pointer (some ⟨g, 0, none⟩)) (hg : w.heap[g]? = some (.cells cells t fr)) (hs : cells.size = 19) (h : wpList Tryz.prog ops Q rest (a.put dst (.agg cells)) w) :
    wpList Tryz.prog ops Q ({ dst := dst, op := .load 32 x, type := ty, pos := pos, after := after, guard := gd } :: rest) a w :=
  wpList_step fun _ hK => by
    rw [if_pos hw]
    exact wp_load_row 32 x rfl g hx t cells fr _ hg Tryz.underlying32 rfl (by rw [hs]; kernel_rfl) (hK _ _ h)
theorem in6_by {x : Ev} (h : decide (0 ≤ x.k ∧ x.k < 256 ∧ 0 ≤ x.c ∧ x.c < 256 ∧ 0 ≤ x.id ∧ x.id < 65536 ∧ 0 ≤ x.o.f ∧ x.o.f < 256 ∧ 0 ≤ x.o.o ∧ x.o.o < 256 ∧ 0 ≤ x.o.k ∧ x.o.k < 256 ∧ 0 ≤ x.o.a ∧ x.o.a < 65536 ∧ 0 ≤ x.o.b ∧ x.o.b < 65536 ∧ 0 ≤ x.rk ∧ x.rk < 256 ∧ 0 ≤ x.rv ∧ x.rv < 65536) = true)
    (h2 : decide (0 ≤ x.g.m ∧ x.g.m < 256 ∧ -9223372036854775808 ≤ x.g.mo ∧ x.g.mo ≤ 9223372036854775807 ∧ -9223372036854775808 ≤ x.g.ms ∧ x.g.ms ≤ 9223372036854775807 ∧ -9223372036854775808 ≤ x.g.mt ∧ x.g.mt ≤ 9223372036854775807) = true)
    (ht : (x.t.all fun m => decide (0 ≤ m.key ∧ m.key < 256 ∧ 0 ≤ m.v ∧ m.v < 65536)) = true) (hr : (x.r.all fun l => l.all fun n => decide (0 ≤ n ∧ n < 65536)) = true) : x.In := by
  have h := of_decide_eq_true h
  have h2 := of_decide_eq_true h2
  obtain ⟨a1, a2, a3, a4, a5, a6, b1, b2, b3, b4, b5, b6, b7, b8, b9, b10, a7, a8, a9, a10⟩ := h
  obtain ⟨c1, c2, c3, c4, c5, c6, c7, c8⟩ := h2
  refine ⟨a1, a2, a3, a4, a5, a6, ⟨b1, b2, b3, b4, b5, b6, b7, b8, b9, b10⟩, a7, a8, a9, a10, fun m hm => ?_, fun l hl => ?_, c1, c2, c3, c4, c5, c6, c7, c8⟩
  · have := of_decide_eq_true (List.all_eq_true.1 ht m hm)
    exact ⟨this.1, this.2.1, this.2.2.1, this.2.2.2⟩
  · intro j
    have h3 := List.all_eq_true.1 hr l hl
    by_cases hj : j < l.length
    · have := of_decide_eq_true (List.all_eq_true.1 h3 l[j] (List.getElem_mem hj))
      simpa [List.getD, hj] using this
    · rw [List.getD, List.getElem?_eq_none (by omega)]
      simp
theorem good6_by {x : Ev} (h : (evKind x.k && decide (x.c < 16) && evFits x) = true) (e : x = evNeed x) : evGood x = true := by
  unfold evGood; rw [h, ← e, evSame_self]; rfl
/-- A good event's line is short. -/
theorem line_short {x : Ev} (hx : x.In) (hg : evGood x = true) : (evLine x).length ≤ 1000000 := by
  obtain ⟨h1, h2⟩ := tail_short hx hg
  have := join_le (l := kdNm x.k :: evTail x) (N := 1000) h1 32
  simp only [List.length_cons] at this
  unfold evLine
  have h3 : ((evTail x).length + 1) * (1000 + 1) ≤ 101 * 1001 := Nat.mul_le_mul (by omega) (Nat.le_refl _)
  omega
theorem line_yes (w : World) (hG : Glob6 w) (x : Ev) (hx : x.In) (tx rd : Value) {N : Nat} (ht : EvAt N w tx rd x) (hN : N ≤ w.heap.size) (hg : evGood x = true) :
    Calls Tryz.prog 8 #[.agg (evC x tx rd)] w fun e w' => e = .returned (.tuple #[.string (bs (evLine x)), .int .i64 0]) ∧ Keeps [] w w' := by
  refine (txLine_any w hG x hx tx rd ht hN).mono ?_
  rintro e w' ⟨he, hk⟩
  have h4 : evErr x = 0 := by simp [evErr, hg]
  rw [hg, if_pos rfl, h4] at he
  exact ⟨he, hk⟩
theorem parse6_yes (w : World) (hG : Glob6 w) (x : Ev) (hx : x.In) (hg : evGood x = true) :
    Calls Tryz.prog 10 #[.string (bs (evLine x))] w fun e W => ∃ tx rd, e = .returned (.tuple #[.agg (evC x tx rd), .int .i64 0]) ∧ EvAt W.heap.size W tx rd x ∧ Keeps [] w W := by
  have h := txParse_any w hG (evLine x) (line_short hx hg)
  obtain ⟨e1, e2⟩ := ln_yes hx hg rfl
  rw [e1, e2] at h
  exact h
theorem parse6_no (w : World) (hG : Glob6 w) (s : List UInt8) (hs : s.length ≤ 1000000) (h0 : lnE s ≠ 0) :
    Calls Tryz.prog 10 #[.string (bs s)] w fun e W => ∃ tx rd, e = .returned (.tuple #[.agg (evC evZero tx rd), .int .i64 4]) ∧ EvAt W.heap.size W tx rd evZero ∧ Keeps [] w W := by
  have h := txParse_any w hG s hs
  obtain ⟨e1, e2⟩ := ln_bad h0
  rw [e1, e2] at h
  exact h
set_option maxHeartbeats 8000000 in
set_option maxRecDepth 100000 in
theorem is6_any (w : World) (hG : Glob6 w) (x : Ev) (hx : x.In) {N : Nat} (tx rd : Value) (ht : EvAt N w tx rd x) (hN : N ≤ w.heap.size) (hg : evGood x = true) (L : List UInt8) (hL : evLine x = L) :
    Calls Tryz.prog 17 #[.agg (evC x tx rd), .string (bs L)] w fun e w' => e = .returned (.bool true) ∧ Keeps [] w w' := by
  subst hL
  have hk0 := (Keeps.refl [] w).alloc (.cells (evC x tx rd) 32)
  have hb0 := heap_alloc_new w (.cells (evC x tx rd) 32)
  have hx1 := ht.t.one
  have hx2 := ht.r.one
  have HK0 := Lib.hid hk0; have HT0 := Lib.hid (ht.new hk0 hN)
  have hn1 : N ≤ (w.alloc (.cells (evC x tx rd) 32)).heap.size := Nat.le_trans hN hk0.size
  have HG0 := Lib.hid (hG.new hk0)
  have hT := fun w hG (ht : EvAt N w tx rd x) hN => line_yes w hG x hx tx rd ht hN hg
  have hP := fun w hG => parse6_yes w hG x hx hg
  have HT := Lib.hid hT; have HP := Lib.hid hP
  clear hk0 ht hN hG hT hP hg hx
  generalize bs (evLine x) = S at *
  go_enter Tryz.func17, Tryz.ntmps17
  go_wp2_with ((with_reducible apply wpList_load_ev); exact rfl; (first | assumption | (refine heap_alloc_lt ?_; assumption) | (refine heap_alloc_lt (heap_alloc_lt ?_); assumption) | exact heap_alloc_at (by simp)); exact rfl)
  generalize w.alloc (.cells (evC x tx rd) 32) = W0 at *
  generalize w.heap.size = b at *
  refine (HT.out W0 HG0.out HT0.out hn1).mono ?_; rintro z w1 ⟨rfl, hk1⟩
  have hb1 := hk1.heap hb0 (by simp)
  have HK1 := Lib.hid (HK0.out.trans hk1 (FSub.refl _ _))
  have HT1 := Lib.hid (HT0.out.new hk1 hn1)
  have HG1 := Lib.hid (HG0.out.new hk1)
  have hn2 := Nat.le_trans hn1 hk1.size
  clear hk1 hb0 HT0 HG0 HK0 hn1 HT
  go_wp2_with fail
  refine (HP.out _ HG1.out).mono ?_; rintro z w5 ⟨tx', rd', rfl, hx', hk5⟩
  have HK5 := Lib.hid (HK1.out.trans hk5 (FSub.refl _ _))
  have HT5 := Lib.hid (HT1.out.new hk5 hn2)
  have hb5 := hk5.heap hb1 (by simp)
  have hn5 := Nat.le_trans hn2 hk5.size
  have hx1' := hx'.t.one
  have hx2' := hx'.r.one
  have HX := Lib.hid hx'
  have HKA := Lib.hid ((Keeps.refl [] w5).alloc (.cells #[.int .u8 0, .int .u8 0, .int .u16 0, .int .u8 0, .int .u8 0, .int .u8 0, .int .u16 0, .int .u16 0, .int .u8 0, .int .u16 0, .slice none 0 0, .slice none 0 0, .int .u8 0, .int .i64 0, .int .i64 0, .int .i64 0, .bool false, .bool false, .bool false] 32))
  clear hk5 HP HG1 HK1 hx' hb1 hn2 HT1
  go_wp2_with ((with_reducible apply wpList_put_ev); exact rfl; exact rfl; (first | assumption | (refine heap_alloc_lt ?_; assumption) | (refine heap_alloc_lt (heap_alloc_lt ?_); assumption) | exact heap_alloc_at (by simp)); exact ⟨rfl, rfl⟩; (refine evC_one _ ?_ ?_ <;> first | rfl | assumption))
  intro W6 hb6 hk6
  have hq6 : Keeps [] w5 W6 := HKA.out.trans hk6 (fun q hq => .inr (by simp at hq; omega))
  have hb6x := hq6.heap hb5 (by simp)
  have HK6 := Lib.hid (HK5.out.trans hq6 (FSub.refl _ _))
  have HX6 := Lib.hid (HX.out.new hq6 (Nat.le_refl _))
  have HT6 := Lib.hid (HT5.out.new hq6 hn5)
  have hs6 : w5.heap.size ≤ W6.heap.size := hq6.size
  have hn6 := Nat.le_trans hn5 hs6
  clear hk6 hq6 HK5 HX HKA HT5 hb5 hn5
  generalize w5.heap.size = c at *
  go_wp2_with ((with_reducible apply wpList_load_evG6); exact rfl; exact rfl; assumption; exact rfl)
  refine (Same5_any W6 x x _ _ _ _ HT6.out HX6.out hn6 hs6).mono ?_; rintro z w7 ⟨rfl, hk7⟩
  rw [evSame_self]
  have HK7 := Lib.hid (HK6.out.trans hk7 (FSub.refl _ _))
  clear HK6 HT6 HX6 hk7
  go_wp2_with fail
  go_ret
  exact ⟨rfl, HK7.out⟩
set_option maxHeartbeats 8000000 in
set_option maxRecDepth 100000 in
theorem unparsed6_any (w : World) (hG : Glob6 w) (s : List UInt8) (hs : s.length ≤ 1000000) (h0 : lnE s ≠ 0) :
    Calls Tryz.prog 18 #[.string (bs s)] w fun e w' => e = .returned (.bool true) ∧ Keeps [] w w' := by
  have HP := Lib.hid (parse6_no w hG s hs h0)
  clear hs h0 hG
  generalize bs s = S at *
  go_enter Tryz.func18, Tryz.ntmps18
  go_wp2_with fail
  refine HP.out.mono ?_; rintro z w5 ⟨tx', rd', rfl, hx', hk5⟩
  have HK5 := Lib.hid hk5
  have hx1' := hx'.t.one
  have hx2' := hx'.r.one
  have HX := Lib.hid hx'
  have HKA := Lib.hid ((Keeps.refl [] w5).alloc (.cells #[.int .u8 0, .int .u8 0, .int .u16 0, .int .u8 0, .int .u8 0, .int .u8 0, .int .u16 0, .int .u16 0, .int .u8 0, .int .u16 0, .slice none 0 0, .slice none 0 0, .int .u8 0, .int .i64 0, .int .i64 0, .int .i64 0, .bool false, .bool false, .bool false] 32))
  clear hk5 HP hx'
  go_wp2_with ((with_reducible apply wpList_put_ev); exact rfl; exact rfl; (first | assumption | (refine heap_alloc_lt ?_; assumption) | (refine heap_alloc_lt (heap_alloc_lt ?_); assumption) | exact heap_alloc_at (by simp)); exact ⟨rfl, rfl⟩; (refine evC_one _ ?_ ?_ <;> first | rfl | assumption))
  intro W6 hb6 hk6
  have hq6 : Keeps [] w5 W6 := HKA.out.trans hk6 (fun q hq => .inr (by simp at hq; omega))
  have HK6 := Lib.hid (HK5.out.trans hq6 (FSub.refl _ _))
  have HX6 := Lib.hid (HX.out.new hq6 (Nat.le_refl _))
  have hs6 : w5.heap.size ≤ W6.heap.size := hq6.size
  clear hk6 hq6 HK5 HX HKA
  generalize w5.heap.size = c at *
  go_wp2_with ((with_reducible apply wpList_load_ev); exact rfl; (first | assumption | (refine heap_alloc_lt ?_; assumption) | (refine heap_alloc_lt (heap_alloc_lt ?_); assumption) | exact heap_alloc_at (by simp)); exact rfl)
  rw [zero_cells6]
  refine (Same5_any W6 evZero evZero _ _ _ _ HX6.out (⟨Mics.nil c _, Lists.nil _ _⟩ : EvAt c W6 _ _ evZero) hs6 hs6).mono ?_; rintro z w7 ⟨rfl, hk7⟩
  rw [evSame_self]
  have HK7 := Lib.hid (HK6.out.trans hk7 (FSub.refl _ _))
  clear HK6 HX6 hk7
  go_wp2_with fail
  go_ret
  exact ⟨rfl, HK7.out⟩
end Go.Proofs.YtffldnjjijckcaaGreatDoor
/-
  works: some of the chapter's answers.
-/
namespace Go.Proofs.YtffldnjjijckcaaGreatDoor
open Go.RowKit
def kwW : Ev := { evZero with k := 2, c := 3, id := 258, o := ⟨2, 1, 0, 5, 0⟩ }
def kwC : Ev := { evZero with k := 6, c := 1, id := 9, r := [[4, 5], []] }
theorem kwW_in : kwW.In := in6_by (by decide) (by decide) (by decide) (by decide)
theorem kwC_in : kwC.In := in6_by (by decide) (by decide) (by decide) (by decide)
theorem kwW_good : evGood kwW = true := good6_by (by decide) rfl
theorem kwC_good : evGood kwC = true := good6_by (by decide) rfl
theorem dec_3 : dec 3 = [51] := by simp [dec, Lib.decDigits]
theorem dec_258 : dec 258 = [50, 53, 56] := by simp [dec, Lib.decDigits]
theorem dec_1 : dec 1 = [49] := by simp [dec, Lib.decDigits]
theorem dec_5 : dec 5 = [53] := by simp [dec, Lib.decDigits]
theorem dec_9 : dec 9 = [57] := by simp [dec, Lib.decDigits]
theorem dec_4 : dec 4 = [52] := by simp [dec, Lib.decDigits]
theorem kwW_line : evLine kwW = [105, 110, 118, 111, 107, 101, 32, 51, 32, 50, 53, 56, 32, 49, 32, 119, 114, 105, 116, 101, 32, 53] := by
  have e : evLine kwW = Lib.join (invokeL :: [dec 3, dec 258, dec 1, opNm 2, dec 5]) [32] := rfl
  rw [e, dec_3, dec_258, dec_1, dec_5]; decide
theorem kwC_line : evLine kwC = [99, 111, 109, 109, 105, 116, 32, 49, 32, 57, 32, 52, 44, 53, 32, 45] := by
  have e : evLine kwC = Lib.join (commitL :: [dec 1, dec 9, Lib.join [dec 4, dec 5] [44], [45]]) [32] := rfl
  rw [e, dec_1, dec_9, dec_4, dec_5]; decide
theorem ln_e1 : lnE [105, 110, 102, 111, 32, 51, 32, 48, 50, 53, 56] ≠ 0 := by
  have : rdEv (cutAt 32 [105, 110, 102, 111, 32, 51, 32, 48, 50, 53, 56]) = none := by decide
  unfold lnE lnGet
  rw [this]; decide
theorem ln_e2 : lnE [] ≠ 0 := by
  have : rdEv (cutAt 32 []) = none := by decide
  unfold lnE lnGet
  rw [this]; decide
theorem kw_lists (w : World) : Lists ((w.alloc (.cells #[.int .u16 4, .int .u16 5] 22)).alloc (.cells #[.slice (some ⟨w.heap.size, 0, none⟩) 2 2, .slice none 0 0] 54)).heap.size
    ((w.alloc (.cells #[.int .u16 4, .int .u16 5] 22)).alloc (.cells #[.slice (some ⟨w.heap.size, 0, none⟩) 2 2, .slice none 0 0] 54)) (.slice (some ⟨w.heap.size + 1, 0, none⟩) 2 2) kwC.r := by
  have h1 := heap_alloc_new w (.cells #[.int .u16 4, .int .u16 5] 22)
  have hk := (Keeps.refl [] (w.alloc (.cells #[.int .u16 4, .int .u16 5] 22))).alloc (.cells #[.slice (some ⟨w.heap.size, 0, none⟩) 2 2, .slice none 0 0] 54)
  have h2 := hk.heap h1 (by simp)
  have h3 := heap_alloc_new (w.alloc (.cells #[.int .u16 4, .int .u16 5] 22)) (.cells #[.slice (some ⟨w.heap.size, 0, none⟩) 2 2, .slice none 0 0] 54)
  have hz : (w.alloc (.cells #[.int .u16 4, .int .u16 5] 22)).heap.size = w.heap.size + 1 := by simp
  rw [hz] at h3
  have hz2 : ((w.alloc (.cells #[.int .u16 4, .int .u16 5] 22)).alloc (.cells #[.slice (some ⟨w.heap.size, 0, none⟩) 2 2, .slice none 0 0] 54)).heap.size = w.heap.size + 2 := by simp
  generalize ((w.alloc (.cells #[.int .u16 4, .int .u16 5] 22)).alloc (.cells #[.slice (some ⟨w.heap.size, 0, none⟩) 2 2, .slice none 0 0] 54)) = W at *
  refine ⟨_, 2, rfl, by decide, by decide, fun _ => ⟨_, _, rfl, by omega, fun j hj => ?_⟩⟩
  rcases (by change j < 2 at hj; omega : j = 0 ∨ j = 1) with rfl | rfl
  · refine ⟨.slice (some ⟨w.heap.size, 0, none⟩) 2 2, by simp [World.cell?, h3], ⟨_, 2, rfl, by decide, by decide, fun _ => ⟨_, _, rfl, by omega, fun i hi => ?_⟩⟩⟩
    rcases (by change i < 2 at hi; omega : i = 0 ∨ i = 1) with rfl | rfl
    · simp [World.cell?, h2, kwC]
    · simp [World.cell?, h2, kwC]
  · exact ⟨.slice none 0 0, by simp [World.cell?, h3], ⟨_, 0, rfl, by decide, by decide, fun h => absurd rfl h⟩⟩
set_option maxHeartbeats 8000000 in
set_option maxRecDepth 100000 in
theorem works6_any (w : World) (hG : Glob6 w) : Calls Tryz.prog 7 #[] w fun e w' => e = .returned (.bool true) ∧ Keeps [] w w' := by
  have HG := Lib.hid hG
  clear hG
  go_enter Tryz.func7, Tryz.ntmps7
  go_wp2_with fail
  refine (is6_any w HG.out kwW kwW_in _ _ (⟨Mics.nil 0 _, Lists.nil _ _⟩ : EvAt 0 w _ _ kwW) (Nat.zero_le _) kwW_good _ kwW_line).mono ?_; rintro z w1 ⟨rfl, hk1⟩
  have HG1 := Lib.hid (HG.out.new hk1)
  have HK1 := Lib.hid hk1
  clear HG hk1
  go_wp2_with fail
  refine (is6_any _ (HG1.out.new (((Keeps.refl [] w1).alloc _).alloc _)) kwC kwC_in (.slice none 0 0) _ (⟨Mics.nil _ _, kw_lists w1⟩ : EvAt _ _ _ _ kwC) (Nat.le_refl _) kwC_good _ kwC_line).mono ?_; rintro z w2 ⟨rfl, hk2⟩
  have hq2 := (((Keeps.refl [] w1).alloc _).alloc _).trans hk2 (FSub.refl _ _)
  have HG2 := Lib.hid (HG1.out.new hq2)
  have HK2 := Lib.hid (HK1.out.trans hq2 (FSub.refl _ _))
  clear HG1 HK1 hk2 hq2
  go_wp2_with fail
  refine (unparsed6_any w2 HG2.out [105, 110, 102, 111, 32, 51, 32, 48, 50, 53, 56] (by decide) ln_e1).mono ?_; rintro z w3 ⟨rfl, hk3⟩
  have HG3 := Lib.hid (HG2.out.new hk3)
  have HK3 := Lib.hid (HK2.out.trans hk3 (FSub.refl _ _))
  clear HG2 HK2 hk3
  go_wp2_with fail
  refine (unparsed6_any w3 HG3.out [] (by decide) ln_e2).mono ?_; rintro z w4 ⟨rfl, hk4⟩
  have HK4 := Lib.hid (HK3.out.trans hk4 (FSub.refl _ _))
  clear HG3 HK3 hk4
  go_wp2_with fail
  go_ret
  exact ⟨rfl, HK4.out⟩
end Go.Proofs.YtffldnjjijckcaaGreatDoor
/-
  Events in a slice; a builder of text; the program's Write.
-/
namespace Go.Proofs.YtffldnjjijckcaaGreatDoor
open Go.RowKit
/-- A slice of events. -/
def Evs (N : Nat) (w : World) (v : Value) (l : List Ev) : Prop :=
  ∃ a c, v = .slice a l.length c ∧ l.length ≤ c ∧ c ≤ 9223372036854775807 ∧ (l ≠ [] → ∃ bk o, a = some ⟨bk, o, none⟩ ∧ bk < N ∧
    ∀ j, j < l.length → ∃ tx rd, EvAt N w tx rd (l.getD j evZero) ∧ w.rangeAt bk (o + j * 19) (evC (l.getD j evZero) tx rd).toList)
theorem rangeAt_same {N : Nat} {w w' : World} {b o : Nat} {cs : List Value} (h : w.rangeAt b o cs) (hk : Same N w w') (hb : b < N) : w'.rangeAt b o cs := fun j v hv => hk.cell hb (h j v hv)
theorem Evs.same {N : Nat} {w w' : World} {v : Value} {l : List Ev} (h : Evs N w v l) (hk : Same N w w') : Evs N w' v l := by
  obtain ⟨a, c, rfl, hc, hm, h⟩ := h
  refine ⟨a, c, rfl, hc, hm, fun hn => ?_⟩
  obtain ⟨bk, o, rfl, hb, h'⟩ := h hn
  refine ⟨bk, o, rfl, hb, fun j hj => ?_⟩
  obtain ⟨tx, rd, h1, h2⟩ := h' j hj
  exact ⟨tx, rd, h1.same hk, rangeAt_same h2 hk hb⟩
theorem Evs.new {N : Nat} {w w' : World} {v : Value} {l : List Ev} (h : Evs N w v l) (hk : Keeps [] w w') (hN : N ≤ w.heap.size) : Evs N w' v l := h.same (hk.same hN (by simp))
/-- A builder holds this text. -/
def Bld (B : Nat) (s : List UInt8) (w : World) : Prop := Lib.IsBuilderF 98 5 B B (Lib.byteCells s) w
theorem ownsRowF_keeps {w w' : World} {base : Nat} {e : TypeId} {v : Value} {n : Nat} {xs : List Value} (h : w.ownsRowF base e 1 v n xs) (hk : Keeps [] w w') : w'.ownsRowF base e 1 v n xs := by
  refine ⟨h.1, ?_⟩
  rcases h.2 with h2 | ⟨g, cap, cur, fz, h1, h2, h3, h4⟩
  · exact .inl h2
  · exact .inr ⟨g, cap, cur, fz, h1, h2, hk.heap h3 (by simp), h4⟩
theorem builderAtF_keeps {w w' : World} {T e : TypeId} {B b : Nat} {p : Value} {xs : List Value} (h : Lib.BuilderAtF T e B b p xs w) (hk : Keeps [] w w') : Lib.BuilderAtF T e B b p xs w' := by
  obtain ⟨h1, v, h2, h3, h4⟩ := h
  exact ⟨h1, v, hk.heap h2 (by simp), ownsRowF_keeps h3 hk, h4⟩
theorem Bld.new {B : Nat} {s : List UInt8} {w w' : World} (h : Bld B s w) (hk : Keeps [] w w') : Bld B s w' := h.elim (fun h => .inl (builderAtF_keeps h hk)) (fun h => .inr (builderAtF_keeps h hk))
theorem Bld.zero (w : World) : Bld w.heap.size [] (w.alloc (.cells #[.pointer none, .slice none 0 0] 98)) :=
  .inl ⟨Nat.le_refl _, _, heap_alloc_new _ _, World.ownsRowF_nil _ _ _ _, by simp [Value.ownBlock]⟩
end Go.Proofs.YtffldnjjijckcaaGreatDoor
/-
  A script's lines; a row of events under way.
-/
namespace Go.Proofs.YtffldnjjijckcaaGreatDoor
open Go.RowKit
/-- A script's lines. -/
def lnsOf : List UInt8 → List (List UInt8)
  | [] => []
  | c :: r => if c = 10 then [] :: lnsOf r else (match lnsOf r with
    | [] => [[c]]
    | h :: t => if r = [] then [[c]] else (c :: h) :: t)
theorem lnsOf_line : ∀ (w r : List UInt8), (10 : UInt8) ∉ w → lnsOf (w ++ 10 :: r) = w :: lnsOf r
  | [], r, _ => by show lnsOf (10 :: r) = _; rw [lnsOf, if_pos rfl]
  | c :: w, r, h => by
    have hc : ¬ c = 10 := fun e => h (by simp [e])
    have ih := lnsOf_line w r (fun hm => h (by simp [hm]))
    show lnsOf (c :: (w ++ 10 :: r)) = _
    rw [lnsOf, if_neg hc, ih]
    simp
theorem lnsOf_last : ∀ (w : List UInt8), (10 : UInt8) ∉ w → w ≠ [] → lnsOf w = [w]
  | [], _, h => absurd rfl h
  | c :: w, h, _ => by
    have hc : ¬ c = 10 := fun e => h (by simp [e])
    unfold lnsOf
    rw [if_neg hc]
    by_cases hw : w = []
    · subst hw; simp [lnsOf]
    · rw [lnsOf_last w (fun hm => h (by simp [hm])) hw]
      simp [hw]
theorem split10 : ∀ (s : List UInt8), (10 : UInt8) ∉ s ∨ ∃ w r, s = w ++ 10 :: r ∧ (10 : UInt8) ∉ w
  | [] => .inl (by simp)
  | c :: r => by
    by_cases hc : c = 10
    · exact .inr ⟨[], r, by simp [hc], by simp⟩
    · rcases split10 r with h | ⟨w, t, h1, h2⟩
      · exact .inl (by simp [h, Ne.symm hc])
      · exact .inr ⟨c :: w, t, by rw [h1]; rfl, by simp [h2, Ne.symm hc]⟩
theorem cut_free (s : List UInt8) (h : (10 : UInt8) ∉ s) : Lib.cut s [10] = (s, [], false) := by
  unfold Lib.cut
  rw [index_free 10 s h, if_neg (by decide)]
theorem cut_at10 (w r : List UInt8) (h : (10 : UInt8) ∉ w) : Lib.cut (w ++ 10 :: r) [10] = (w, r, true) := by
  unfold Lib.cut
  rw [index_at 10 w r h, if_pos (by omega)]
  have e : ((w.length : Nat) : Int).toNat = w.length := by omega
  simp only [e]
  simp
/-- What strings.Cut leaves of a script is what stands behind its first line. -/
theorem cut_lns {s : List UInt8} (h : s ≠ []) : lnsOf s = (Lib.cut s [10]).1 :: lnsOf (Lib.cut s [10]).2.1 ∧ (Lib.cut s [10]).2.1.length < s.length := by
  rcases split10 s with h1 | ⟨w, r, rfl, h2⟩
  · rw [cut_free s h1, lnsOf_last s h1 h]
    refine ⟨rfl, ?_⟩
    exact List.length_pos_iff.2 h
  · rw [cut_at10 w r h2, lnsOf_line w r h2]
    exact ⟨rfl, by simp; omega⟩
/-- The events of lines, how many there are, and the error. -/
noncomputable def rdS (acc : List Ev) (n : Int) : List (List UInt8) → List Ev × Int × Int
  | [] => (acc, n, 0)
  | x :: r => if lnE x = 0 then rdS (acc ++ [lnX x]) (n + 1) r else ([], n + 1, 4)
abbrev EvL := List (Ev × Value × Value)
def evsC : EvL → List Value
  | [] => []
  | p :: r => (evC p.1 p.2.1 p.2.2).toList ++ evsC r
theorem evC_len (x : Ev) (tx rd : Value) : (evC x tx rd).toList.length = 19 := rfl
theorem evsC_app : ∀ (l m : EvL), evsC (l ++ m) = evsC l ++ evsC m
  | [], m => rfl
  | p :: r, m => by show _ ++ evsC (r ++ m) = _; rw [evsC_app r m, ← List.append_assoc]; rfl
theorem evsC_len : ∀ (l : EvL), (evsC l).length = l.length * 19
  | [] => rfl
  | p :: r => by
    show ((evC p.1 p.2.1 p.2.2).toList ++ evsC r).length = _
    rw [List.length_append, evC_len, evsC_len r]; simp; omega
theorem evsC_get : ∀ (l : EvL) (j : Nat) (p : Ev × Value × Value), l[j]? = some p → ∀ i v, (evC p.1 p.2.1 p.2.2).toList[i]? = some v → (evsC l)[j * 19 + i]? = some v
  | [], j, p, h, _, _, _ => by simp at h
  | q :: r, 0, p, h, i, v, hi => by
    simp at h; subst h
    have hl : i < (evC q.1 q.2.1 q.2.2).toList.length := (List.getElem?_eq_some_iff.1 hi).1
    show ((evC q.1 q.2.1 q.2.2).toList ++ evsC r)[0 * 19 + i]? = _
    rw [show 0 * 19 + i = i by omega, List.getElem?_append_left hl]
    exact hi
  | q :: r, j + 1, p, h, i, v, hi => by
    show ((evC q.1 q.2.1 q.2.2).toList ++ evsC r)[(j + 1) * 19 + i]? = _
    rw [List.getElem?_append_right (by rw [evC_len]; omega), evC_len, show (j + 1) * 19 + i - 19 = j * 19 + i by omega]
    exact evsC_get r j p (by simpa using h) i v hi
def RowE (base : Nat) (w : World) (v : Value) (L : EvL) : Prop := w.ownsRow base 32 19 v L.length (evsC L)
theorem Tryz.infoE : (Tryz.prog.info? 32).map (fun i => (i.zero, i.size, i.bytes)) = some (some (.agg (evC evZero (.slice none 0 0) (.slice none 0 0))), 19, 104) := by kernel_rfl
theorem ev_new (w : World) (x : Ev) (tx rd : Value) (t : TypeId) : ∀ j u, (evC x tx rd).toList[j]? = some u → (w.alloc (.cells (evC x tx rd) t)).cell? ((⟨w.heap.size, 0, none⟩ : Addr).add j) = some u := by
  intro j u hj
  rw [Addr.add_mid, Nat.zero_add]
  have := heap_alloc_new w (.cells (evC x tx rd) t)
  simp only [World.cell?, this]
  rw [Array.getElem?_toList] at hj
  simpa using hj
theorem evC_onel {x : Ev} {tx rd : Value} (h1 : tx.oneCell' = true) (h2 : rd.oneCell' = true) : ∀ u ∈ (evC x tx rd).toList, u.oneCell' = true := by
  have h := evC_one x h1 h2
  rw [List.all_eq_true] at h
  exact fun u hu => h u hu
theorem append_ev (w : World) (base : Nat) (hbase : base ≤ w.heap.size) (v : Value) (L : EvL) (hrow : RowE base w v L) (hn : L.length ≤ 100000000) (x : Ev) (tx rd : Value) (h1 : tx.oneCell' = true) (h2 : rd.oneCell' = true) :
    ∃ v' w', (Builtin.append_ #[46, 46] 46 #[v, .slice (some ⟨w.heap.size, 0, none⟩) 1 1]).run Tryz.prog (w.alloc (.cells (evC x tx rd) 32)) = .ok v' w' ∧ RowE base w' v' (L ++ [(x, tx, rd)]) ∧ Keeps (own v) w w' ∧ FSub (own v') (own v) w.heap.size := by
  obtain ⟨i0, hi, hz0, hz1, hz2⟩ := info_parts Tryz.infoE
  have hk := (Keeps.refl (own v) w).alloc (.cells (evC x tx rd) 32)
  have hr2 : RowE base (w.alloc (.cells (evC x tx rd) 32)) v L := row_old hrow ((Keeps.refl [] w).alloc _) (by simp)
  have hsz : w.heap.size ≤ (w.alloc (.cells (evC x tx rd) 32)).heap.size := hk.size
  have hnew := ev_new w x tx rd 32
  have hone := evC_onel (x := x) h1 h2
  have hcells : evsC (L ++ [(x, tx, rd)]) = evsC L ++ (evC x tx rd).toList := by rw [evsC_app]; simp [evsC]
  have hb : (L.length + 1) * 104 ≤ 140737488355328 := by omega
  have hm : L.length + 1 ≤ maxLen := by unfold maxLen; omega
  generalize w.alloc (.cells (evC x tx rd) 32) = w1 at *
  have fin : ∀ {b2 : Nat} {v' : Value} {w' : World}, base ≤ b2 → w'.ownsRow b2 32 19 v' (L.length + 1) (evsC L ++ (evC x tx rd).toList) → RowE base w' v' (L ++ [(x, tx, rd)]) := by
    intro b2 v' w' hb2 h
    unfold RowE
    rw [hcells, List.length_append]
    exact row_up h (fun q hq => Nat.le_trans hb2 (row_base h q hq).1)
  unfold RowE at hr2
  rcases hr2.2 with ⟨rfl, h0⟩ | ⟨g, cap, cur, rfl, hbg, hg, hnc, hcm, hcs, htake⟩
  · obtain ⟨v', w', hr, ho, hgr, _⟩ := run_append_own (P := Tryz.prog) (w := w1) w1.heap.size 46 46 32 i0 _ 19 104 Tryz.underlying46 hi hz0 hz1 hz2 rfl (by decide) (.slice none 0 0) L.length (evsC L) ⟨hr2.1, .inl ⟨rfl, h0⟩⟩
      ⟨w.heap.size, 0, none⟩ 1 1 (evC x tx rd).toList rfl hnew hone hm hb (Nat.le_refl _)
    exact ⟨v', w', hr, fin (Nat.le_trans hbase hsz) ho, hk.grown hgr (fun q hq => .inl hq), fun q hq => .inr (Nat.le_trans hsz (row_base ho q hq).1)⟩
  · by_cases hroom : L.length + 1 ≤ cap
    · obtain ⟨w', hr, ho, hgr⟩ := run_append_fits (P := Tryz.prog) w1 base 46 46 32 i0 19 Tryz.underlying46 hi hz1 g L.length cap (evsC L) hr2 ⟨w.heap.size, 0, none⟩ 1 1 (evC x tx rd).toList rfl hnew hone hroom
      exact ⟨_, w', hr, fin (Nat.le_refl _) ho, hk.grown (v := .slice (some ⟨g, 0, none⟩) L.length cap) hgr (fun q hq => .inl hq), fun q hq => .inl hq⟩
    · obtain ⟨v', w', hr, ho, hgr⟩ := run_append_arg_grows (P := Tryz.prog) w1 46 46 32 i0 _ 19 104 Tryz.underlying46 hi hz0 hz1 hz2 rfl (by decide) ⟨g, 0, none⟩ L.length cap (evsC L) (evsC_len L) (hr2.cells (g := g) rfl) ⟨w.heap.size, 0, none⟩ 1 1 (evC x tx rd).toList rfl hnew (by omega) hm hb
      refine ⟨v', w', hr, fin (Nat.le_trans hbase hsz) ho, ?_, fun q hq => .inr (Nat.le_trans hsz (row_base ho q hq).1)⟩
      exact hk.grown (v := .slice none 0 0) hgr (fun q hq => by simp [own, Value.ownBlock] at hq)
end Go.Proofs.YtffldnjjijckcaaGreatDoor
