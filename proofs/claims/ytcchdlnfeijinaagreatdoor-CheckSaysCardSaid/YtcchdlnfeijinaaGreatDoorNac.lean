/- Lexd to Lexpa0: Walks of layer lex: a number. -/
import Derived.Test.YtcchdlnfeijinaaGreatDoorNab
import Derived.Lib.ConvBytes
import Derived.Lib.AtoiErrMem
import Derived.RangeFuncNested
import Derived.RangeFuncBound
import Derived.RangeFuncCalls
import Derived.RangeFuncLeaves
import Derived.RangeFuncBox
import Derived.Shelf.Abstract
import Derived.Shelf.RegionOpen
import Derived.OwnWalkIn
import Derived.TacticsInMore
import Derived.LoopNIn
import Derived.LoopIn
import Derived.Maps.AppendAt
import Derived.Deep.AppendLies
import Derived.Deep.Draws
import Derived.Deep.QuietTactic
import Derived.BigQuiet
import Derived.Deep.RegionHeld3
import Derived.Lib.AppendIntMem
import Derived.Lib.ItoaLen
namespace Go.Proofs.YtcchdlnfeijinaaGreatDoor
open Go.Proofs.Tryz
set_option linter.unusedSimpArgs false
set_option linter.unusedVariables false
set_option maxHeartbeats 4000000
set_option maxRecDepth 100000
section
open Go.RowKit
theorem IQ (l:List UInt8):∀acc:Nat,acc<=dv acc l:=by
 induction l with
 |nil=>intro acc;rw [yY];exact zL _
 |cons c r ih=>
  intro acc;have h:acc<=acc * 10+(c.toNat - 48):=by generalize c.toNat - 48=x;omega
  exact Nat.le_trans h (ih _)
theorem JM (M:Nat)(hM:M<18446744073709551616)(l:List UInt8):∀acc:Nat,(∀c∈l,isD c=true)->acc<=M->
  Lib.parseUintM M acc l=if dv acc l<=M then .ok (dv acc l) else .range:=by
 induction l with
 |nil=>intro acc _ ha;rw [yY,if_pos ha];rfl
 |cons c r ih=>
  intro acc hl ha;have hc:=hl c (by simp)
  simp only [isD,Bool.and_eq_true,decide_eq_true_eq] at hc;have hd:=IQ r (acc * 10+(c.toNat - 48));rw [Lib.parseUintM,Aq,if_pos hc];by_cases h1:1844674407370955162<=acc
  ·rw [if_pos h1,if_neg (by omega)]
  ·rw [if_neg h1];by_cases h2:M<acc * 10+(c.toNat - 48)
   ·rw [if_pos h2,if_neg (by omega)]
   ·rw [if_neg h2];exact ih _ (fun d hd=>hl d (List.mem_cons_of_mem _ hd)) (by omega)
theorem Dw (B:Nat)(hB:B=32∨B=64)(l:List UInt8)(h0:l≠[])(hl:∀c∈l,isD c=true) :
  Lib.parseIntB B l=if dv 0 l<=2 ^ (B - 1) - 1 then .ok (dv 0 l:Int) else .range:=by
 cases l with
 |nil=>exact absurd rfl h0
 |cons c r=>
  have hc:=hl c (by simp)
  simp only [isD,Bool.and_eq_true,decide_eq_true_eq] at hc;have hm:(2 ^ B - 1:Nat)<18446744073709551616:=by rcases hB with rfl|rfl <;> decide
  have GA:(2 ^ (B - 1) - 1:Nat)<=2 ^ B - 1/\1<=(2 ^ (B - 1):Nat):=by rcases hB with rfl|rfl <;> decide
  have e:=JM (2 ^ B - 1) hm (c ::r) 0 hl (by omega)
  have n1:¬ (c.toNat=43∨c.toNat=45):=by omega
  have n2:¬ c.toNat=45:=by omega
  generalize dv 0 (c ::r)=v at *;unfold Lib.parseIntB;simp only [if_neg n1,Lib.parseUintB,if_neg h0,e];by_cases h1:v<=2 ^ B - 1
  ·simp only [if_pos h1];by_cases h2:v<=2 ^ (B - 1) - 1
   ·rw [if_pos h2,if_neg (by omega),if_neg (by omega),if_neg n2]
   ·rw [if_neg h2,if_pos (by omega)]
  ·simp only [if_neg h1];rw [if_neg (by omega)]
theorem pO {s:ByteArray}{k:Nat}(hk:k=len isD s.data.toList)(h1:1<=k) :
  (s.extract 0 k).data.toList≠[]/\(∀c∈(s.extract 0 k).data.toList,isD c=true)/\dv 0 (s.extract 0 k).data.toList=eP s.data.toList:=by
 have e:(s.extract 0 k).data.toList=s.data.toList.take (len isD s.data.toList):=by rw [rU,hk]
 rw [e];refine ⟨?_,qy isD _,rfl⟩;intro h;have:=congrArg List.length h;have h2:=iL isD s.data.toList;rw [List.length_take,Nat.min_eq_left h2] at this;simp at this;omega
theorem iU {s:ByteArray}{k:Nat}(hs:s.size<=1048576)(hk:k=len isD s.data.toList)(h1:1<=k)(B:Nat)(hB:B=32∨B=64)(hv:eP s.data.toList<=2 ^ (B - 1) - 1)(w:World) :
  Calls prog 141 #[.string (s.extract 0 k),Iv 10,Iv (B:Int)] w fun e w'=>e=.returned (.tuple #[Iv (eP s.data.toList),.nilIface])/\Zw w w':=by
 obtain ⟨t1,t2,t3⟩:=pO hk h1;have hp:=Dw B hB _ t1 t2;rw [t3,if_pos hv] at hp;have hz:(s.extract 0 k).size<=9223372036854775806:=by rw [ByteArray.size_extract];omega
 have fin:∀(e:Ending) (w':World),(e=.returned (.tuple #[Iv (eP s.data.toList),.nilIface])/\(w'=w∨∃t,w'=Lib.bytesWorld w 5 t))->e=.returned (.tuple #[Iv (eP s.data.toList),.nilIface])/\Zw w w':=by
  rintro e w' ⟨rfl,rfl|⟨t,rfl⟩⟩
  ·exact ⟨rfl,zB _ _⟩
  ·exact ⟨rfl,Lib.bytesWorld_below w _ t⟩
 rcases hB with rfl|rfl
 ·exact (Tryz.strconv_ParseInt_10_at32_ok _ hz _ hp w).mono fin
 ·exact (Tryz.strconv_ParseInt_10_at64_ok _ hz _ hp w).mono fin
def Ls (w:World) (e:Ending) (w':World):Prop:=∃(v:Int) (N:Nat),e=.returned (.tuple #[Iv v,.iface 200 (Pt N)])/\Zw w w'
theorem gU {s:ByteArray}{k:Nat}(hs:s.size<=1048576)(hk:k=len isD s.data.toList)(h1:1<=k)(B:Nat)(hB:B=32∨B=64)(hv:¬ eP s.data.toList<=2 ^ (B - 1) - 1)(w:World)(hE:Env w) :
  Calls prog 141 #[.string (s.extract 0 k),Iv 10,Iv (B:Int)] w (Ls w):=by
 obtain ⟨t1,t2,t3⟩:=pO hk h1;have hp:=Dw B hB _ t1 t2;rw [t3,if_neg hv] at hp;have hz:(s.extract 0 k).size<=281474976710656:=by rw [ByteArray.size_extract];omega
 obtain ⟨tp,p,hr⟩:=hE.rng;rcases hB with rfl|rfl
 ·exact (Tryz.strconv_ParseInt_10_at32_range_var _ hz hp tp p w hr).mono (by rintro e w' ⟨N,rfl,_,_,hb⟩;exact ⟨_,N,rfl,hb⟩)
 ·exact (Tryz.strconv_ParseInt_10_at64_range_var _ hz hp tp p w hr).mono (by rintro e w' ⟨N,rfl,_,_,hb⟩;exact ⟨_,N,rfl,hb⟩)
theorem hd0 (f:UInt8->Bool)(s:ByteArray)(h:0<s.size):hd f s.data.toList=f s[0]:=by
 have:=lI f s 0 h
 simpa using this
theorem qQ (s:ByteArray)(hs:s.size<=1048576)(h0:1<=len isD s.data.toList)(w:World)(hE:Env w) :
  Calls prog 107 #[.string s] w fun e w'=>e=.returned (scV (aT s.data.toList))/\Zw w w':=by
 have hl:=iL isD s.data.toList;rw [<-Lib.size_eq] at hl;have h00:0<s.size:=by omega
 have hz:=hd0 (fun c=>decide (c.toNat=48)) s h00
 have HZ:=Hy hz;clear hz;have UK:Env (w.alloc (.cells #[Iv 0,Iv 0,Iv 0,.string ⟨#[]⟩] 92)):=hE.of ((Below.refl _ w).alloc (zL _) _);have HE:=Hy UK;clear UK hE;go_enter func107,ntmps107;go_wp2;go_loop [5] (fun v=>∃k:Nat,1<=k/\k<=len isD s.data.toList/\v=Iv k) (fun i=>s.size - (intOf i).toNat)
 case atStart=>exact ⟨1,by omega,h0,rfl⟩
 case round=>
  obtain ⟨k,bT,hk,rfl⟩:=hrel;have Oq:k<=s.size:=by omega
  by_cases hlt:k<s.size
  ·have Rm:=xm hk hlt;cases hc:isD s[k]
   ·have Sk:=Rm.2 hc;clear Rm hk;have HK:=Hy Sk;clear Sk;have h76:lng s.data.toList=decide (s[k].toNat=76):=by rw [lng,<-HK.out,lI _ s k hlt]
    by_cases h7:s[k].toNat=76
    ·have t7:((s[k].toNat:Int) == 76)=true:=by simp [h7]
     have hL:lng s.data.toList=true:=by rw [h76];simp [h7]
     have hN:nsz s.data.toList=k+1:=by rw [nsz,hL,HK.out];rfl
     clear h76 h7;by_cases hlt2:k+1<s.size
     ·by_cases hk2:1<k
      ·by_cases hz48:s[0].toNat=48
       ·have t0:((s[0].toNat:Int) == 48)=true:=by simp [hz48]
        have hF:cB s.data.toList=true:=by rw [cB,<-HK.out,HZ.out];simp [hk2,hz48]
        have e:aT s.data.toList=(tk0,0,2):=by rw [aT,if_pos hF]
        have HA:=Hy e;clear e hF hL hN hz48;go_wp2_with (first|(go_at_call 106;refine (aL _ _).mono ?_;rw [hc];clear hc;rintro e w1 ⟨rfl,rfl⟩))
        rw [HA.out];exact gL (t:=tk0) (n:=0) (no:=2) rfl rfl rfl rfl rfl ⟨rfl,(Below.refl _ w).alloc (zL _) _⟩
       ·have t0:((s[0].toNat:Int) == 48)=false:=by simp;omega
        cases hn:isN s[k+1]
        ·have hP:hd isN (s.data.toList.drop (nsz s.data.toList))=false:=by rw [hN,lI _ s (k+1) (by omega),hn]
         have hF:cB s.data.toList=false:=by rw [cB,<-HK.out,HZ.out,hP];simp [hz48]
         have hM:jK s.data.toList=9223372036854775807:=by rw [jK,hL];rfl
         have BP:fD s.data.toList=[76]:=by rw [fD,hL];rfl
         by_cases hr:9223372036854775807<eP s.data.toList
         ·have e:aT s.data.toList=(tk0,0,11):=by rw [aT,hF,if_neg (by simp),hM,if_pos hr]
          have HA:=Hy e;have HP:=Hy (gU hs HK bT 64 (by simp) (by simpa using hr) _ HE)
          clear e hF hM BP hr hL hN hz48 hP;go_wp2_with (first|(go_at_call 106;refine (aL _ _).mono ?_;rw [hc];clear hc;rintro e w1 ⟨rfl,rfl⟩)|(go_at_call 140;refine (aZ _ _).mono ?_;rw [hn];clear hn;rintro e w1 ⟨rfl,rfl⟩)|(go_at_call 141;refine HP.mono ?_;rintro e w1 ⟨nv,N,rfl,av⟩;have hblk:=(av.block w.heap.size (by simp)).trans (heap_alloc_new w _);obtain ⟨JQ,qA⟩:=gI av;have HB:=Hy hblk;clear hblk;have iK:=Hy av;clear av))
          rw [HA.out];exact dx (t:=tk0) (n:=0) (no:=11) rfl rfl rfl rfl rfl HB rfl ⟨rfl,aM (((Below.refl _ w).alloc (zL _) _).trans (iK.mono (by simp))) (zL _)⟩
         ·have e:aT s.data.toList=(⟨2,0,eP s.data.toList,[76]⟩,(k+1),0):=by rw [aT,hF,if_neg (by simp),hM,if_neg hr,BP,hN]
          have HA:=Hy e;have HP:=Hy (iU hs HK bT 64 (by simp) (by simp;omega) (w.alloc (.cells #[Iv 0,Iv 0,Iv 0,.string ⟨#[]⟩] 92)))
          clear e hF hM BP hr hL hN hz48 hP;go_wp2_with (first|(go_at_call 106;refine (aL _ _).mono ?_;rw [hc];clear hc;rintro e w1 ⟨rfl,rfl⟩)|(go_at_call 140;refine (aZ _ _).mono ?_;rw [hn];clear hn;rintro e w1 ⟨rfl,rfl⟩)|(go_at_call 141;refine HP.mono ?_;rintro e w1 ⟨rfl,av⟩;have hblk:=(av.block w.heap.size (by simp)).trans (heap_alloc_new w _);obtain ⟨JQ,qA⟩:=gI av;have HB:=Hy hblk;clear hblk;have iK:=Hy av;clear av))
          rw [HA.out];exact dx (t:=⟨2,0,eP s.data.toList,[76]⟩) (n:=(k+1)) (no:=0) rfl rfl rfl rfl rfl HB rfl ⟨rfl,aM (((Below.refl _ w).alloc (zL _) _).trans (iK.mono (by simp))) (zL _)⟩
        ·have hP:hd isN (s.data.toList.drop (nsz s.data.toList))=true:=by rw [hN,lI _ s (k+1) (by omega),hn]
         have hF:cB s.data.toList=true:=by rw [cB,hP];simp
         have e:aT s.data.toList=(tk0,0,2):=by rw [aT,if_pos hF]
         have HA:=Hy e;clear e hF hL hN hz48 hP;go_wp2_with (first|(go_at_call 106;refine (aL _ _).mono ?_;rw [hc];clear hc;rintro e w1 ⟨rfl,rfl⟩)|(go_at_call 140;refine (aZ _ _).mono ?_;rw [hn];clear hn;rintro e w1 ⟨rfl,rfl⟩))
         rw [HA.out];exact gL (t:=tk0) (n:=0) (no:=2) rfl rfl rfl rfl rfl ⟨rfl,(Below.refl _ w).alloc (zL _) _⟩
      ·cases hn:isN s[k+1]
       ·have hP:hd isN (s.data.toList.drop (nsz s.data.toList))=false:=by rw [hN,lI _ s (k+1) (by omega),hn]
        have hF:cB s.data.toList=false:=by rw [cB,<-HK.out,hP];simp [hk2]
        have hM:jK s.data.toList=9223372036854775807:=by rw [jK,hL];rfl
        have BP:fD s.data.toList=[76]:=by rw [fD,hL];rfl
        by_cases hr:9223372036854775807<eP s.data.toList
        ·have e:aT s.data.toList=(tk0,0,11):=by rw [aT,hF,if_neg (by simp),hM,if_pos hr]
         have HA:=Hy e;have HP:=Hy (gU hs HK bT 64 (by simp) (by simpa using hr) _ HE)
         clear e hF hM BP hr hL hN hP;go_wp2_with (first|(go_at_call 106;refine (aL _ _).mono ?_;rw [hc];clear hc;rintro e w1 ⟨rfl,rfl⟩)|(go_at_call 140;refine (aZ _ _).mono ?_;rw [hn];clear hn;rintro e w1 ⟨rfl,rfl⟩)|(go_at_call 141;refine HP.mono ?_;rintro e w1 ⟨nv,N,rfl,av⟩;have hblk:=(av.block w.heap.size (by simp)).trans (heap_alloc_new w _);obtain ⟨JQ,qA⟩:=gI av;have HB:=Hy hblk;clear hblk;have iK:=Hy av;clear av))
         rw [HA.out];exact dx (t:=tk0) (n:=0) (no:=11) rfl rfl rfl rfl rfl HB rfl ⟨rfl,aM (((Below.refl _ w).alloc (zL _) _).trans (iK.mono (by simp))) (zL _)⟩
        ·have e:aT s.data.toList=(⟨2,0,eP s.data.toList,[76]⟩,(k+1),0):=by rw [aT,hF,if_neg (by simp),hM,if_neg hr,BP,hN]
         have HA:=Hy e;have HP:=Hy (iU hs HK bT 64 (by simp) (by simp;omega) (w.alloc (.cells #[Iv 0,Iv 0,Iv 0,.string ⟨#[]⟩] 92)))
         clear e hF hM BP hr hL hN hP;go_wp2_with (first|(go_at_call 106;refine (aL _ _).mono ?_;rw [hc];clear hc;rintro e w1 ⟨rfl,rfl⟩)|(go_at_call 140;refine (aZ _ _).mono ?_;rw [hn];clear hn;rintro e w1 ⟨rfl,rfl⟩)|(go_at_call 141;refine HP.mono ?_;rintro e w1 ⟨rfl,av⟩;have hblk:=(av.block w.heap.size (by simp)).trans (heap_alloc_new w _);obtain ⟨JQ,qA⟩:=gI av;have HB:=Hy hblk;clear hblk;have iK:=Hy av;clear av))
         rw [HA.out];exact dx (t:=⟨2,0,eP s.data.toList,[76]⟩) (n:=(k+1)) (no:=0) rfl rfl rfl rfl rfl HB rfl ⟨rfl,aM (((Below.refl _ w).alloc (zL _) _).trans (iK.mono (by simp))) (zL _)⟩
       ·have hP:hd isN (s.data.toList.drop (nsz s.data.toList))=true:=by rw [hN,lI _ s (k+1) (by omega),hn]
        have hF:cB s.data.toList=true:=by rw [cB,hP];simp
        have e:aT s.data.toList=(tk0,0,2):=by rw [aT,if_pos hF]
        have HA:=Hy e;clear e hF hL hN hP;go_wp2_with (first|(go_at_call 106;refine (aL _ _).mono ?_;rw [hc];clear hc;rintro e w1 ⟨rfl,rfl⟩)|(go_at_call 140;refine (aZ _ _).mono ?_;rw [hn];clear hn;rintro e w1 ⟨rfl,rfl⟩))
        rw [HA.out];exact gL (t:=tk0) (n:=0) (no:=2) rfl rfl rfl rfl rfl ⟨rfl,(Below.refl _ w).alloc (zL _) _⟩
     ·have hP:hd isN (s.data.toList.drop (nsz s.data.toList))=false:=by rw [hN,rF _ s (k+1) (by omega)]
      by_cases hk2:1<k
      ·by_cases hz48:s[0].toNat=48
       ·have t0:((s[0].toNat:Int) == 48)=true:=by simp [hz48]
        have hF:cB s.data.toList=true:=by rw [cB,<-HK.out,HZ.out];simp [hk2,hz48]
        have e:aT s.data.toList=(tk0,0,2):=by rw [aT,if_pos hF]
        have HA:=Hy e;clear e hF hL hN hP hz48;go_wp2_with (first|(go_at_call 106;refine (aL _ _).mono ?_;rw [hc];clear hc;rintro e w1 ⟨rfl,rfl⟩))
        rw [HA.out];exact gL (t:=tk0) (n:=0) (no:=2) rfl rfl rfl rfl rfl ⟨rfl,(Below.refl _ w).alloc (zL _) _⟩
       ·have t0:((s[0].toNat:Int) == 48)=false:=by simp;omega
        have hF:cB s.data.toList=false:=by rw [cB,<-HK.out,HZ.out,hP];simp [hz48]
        have hM:jK s.data.toList=9223372036854775807:=by rw [jK,hL];rfl
        have BP:fD s.data.toList=[76]:=by rw [fD,hL];rfl
        by_cases hr:9223372036854775807<eP s.data.toList
        ·have e:aT s.data.toList=(tk0,0,11):=by rw [aT,hF,if_neg (by simp),hM,if_pos hr]
         have HA:=Hy e;have HP:=Hy (gU hs HK bT 64 (by simp) (by simpa using hr) _ HE)
         clear e hF hM BP hr hL hN hP hz48;go_wp2_with (first|(go_at_call 106;refine (aL _ _).mono ?_;rw [hc];clear hc;rintro e w1 ⟨rfl,rfl⟩)|(go_at_call 141;refine HP.mono ?_;rintro e w1 ⟨nv,N,rfl,av⟩;have hblk:=(av.block w.heap.size (by simp)).trans (heap_alloc_new w _);obtain ⟨JQ,qA⟩:=gI av;have HB:=Hy hblk;clear hblk;have iK:=Hy av;clear av))
         rw [HA.out];exact dx (t:=tk0) (n:=0) (no:=11) rfl rfl rfl rfl rfl HB rfl ⟨rfl,aM (((Below.refl _ w).alloc (zL _) _).trans (iK.mono (by simp))) (zL _)⟩
        ·have e:aT s.data.toList=(⟨2,0,eP s.data.toList,[76]⟩,(k+1),0):=by rw [aT,hF,if_neg (by simp),hM,if_neg hr,BP,hN]
         have HA:=Hy e;have HP:=Hy (iU hs HK bT 64 (by simp) (by simp;omega) (w.alloc (.cells #[Iv 0,Iv 0,Iv 0,.string ⟨#[]⟩] 92)))
         clear e hF hM BP hr hL hN hP hz48;go_wp2_with (first|(go_at_call 106;refine (aL _ _).mono ?_;rw [hc];clear hc;rintro e w1 ⟨rfl,rfl⟩)|(go_at_call 141;refine HP.mono ?_;rintro e w1 ⟨rfl,av⟩;have hblk:=(av.block w.heap.size (by simp)).trans (heap_alloc_new w _);obtain ⟨JQ,qA⟩:=gI av;have HB:=Hy hblk;clear hblk;have iK:=Hy av;clear av))
         rw [HA.out];exact dx (t:=⟨2,0,eP s.data.toList,[76]⟩) (n:=(k+1)) (no:=0) rfl rfl rfl rfl rfl HB rfl ⟨rfl,aM (((Below.refl _ w).alloc (zL _) _).trans (iK.mono (by simp))) (zL _)⟩
      ·have hF:cB s.data.toList=false:=by rw [cB,<-HK.out,hP];simp [hk2]
       have hM:jK s.data.toList=9223372036854775807:=by rw [jK,hL];rfl
       have BP:fD s.data.toList=[76]:=by rw [fD,hL];rfl
       by_cases hr:9223372036854775807<eP s.data.toList
       ·have e:aT s.data.toList=(tk0,0,11):=by rw [aT,hF,if_neg (by simp),hM,if_pos hr]
        have HA:=Hy e;have HP:=Hy (gU hs HK bT 64 (by simp) (by simpa using hr) _ HE)
        clear e hF hM BP hr hL hN hP;go_wp2_with (first|(go_at_call 106;refine (aL _ _).mono ?_;rw [hc];clear hc;rintro e w1 ⟨rfl,rfl⟩)|(go_at_call 141;refine HP.mono ?_;rintro e w1 ⟨nv,N,rfl,av⟩;have hblk:=(av.block w.heap.size (by simp)).trans (heap_alloc_new w _);obtain ⟨JQ,qA⟩:=gI av;have HB:=Hy hblk;clear hblk;have iK:=Hy av;clear av))
        rw [HA.out];exact dx (t:=tk0) (n:=0) (no:=11) rfl rfl rfl rfl rfl HB rfl ⟨rfl,aM (((Below.refl _ w).alloc (zL _) _).trans (iK.mono (by simp))) (zL _)⟩
       ·have e:aT s.data.toList=(⟨2,0,eP s.data.toList,[76]⟩,(k+1),0):=by rw [aT,hF,if_neg (by simp),hM,if_neg hr,BP,hN]
        have HA:=Hy e;have HP:=Hy (iU hs HK bT 64 (by simp) (by simp;omega) (w.alloc (.cells #[Iv 0,Iv 0,Iv 0,.string ⟨#[]⟩] 92)))
        clear e hF hM BP hr hL hN hP;go_wp2_with (first|(go_at_call 106;refine (aL _ _).mono ?_;rw [hc];clear hc;rintro e w1 ⟨rfl,rfl⟩)|(go_at_call 141;refine HP.mono ?_;rintro e w1 ⟨rfl,av⟩;have hblk:=(av.block w.heap.size (by simp)).trans (heap_alloc_new w _);obtain ⟨JQ,qA⟩:=gI av;have HB:=Hy hblk;clear hblk;have iK:=Hy av;clear av))
        rw [HA.out];exact dx (t:=⟨2,0,eP s.data.toList,[76]⟩) (n:=(k+1)) (no:=0) rfl rfl rfl rfl rfl HB rfl ⟨rfl,aM (((Below.refl _ w).alloc (zL _) _).trans (iK.mono (by simp))) (zL _)⟩
    ·have t7:((s[k].toNat:Int) == 76)=false:=by simp;omega
     have hL:lng s.data.toList=false:=by rw [h76];simp [h7]
     have hN:nsz s.data.toList=k:=by rw [nsz,hL,HK.out];rfl
     clear h76 h7;by_cases hk2:1<k
     ·by_cases hz48:s[0].toNat=48
      ·have t0:((s[0].toNat:Int) == 48)=true:=by simp [hz48]
       have hF:cB s.data.toList=true:=by rw [cB,<-HK.out,HZ.out];simp [hk2,hz48]
       have e:aT s.data.toList=(tk0,0,2):=by rw [aT,if_pos hF]
       have HA:=Hy e;clear e hF hL hN hz48;go_wp2_with (first|(go_at_call 106;refine (aL _ _).mono ?_;rw [hc];clear hc;rintro e w1 ⟨rfl,rfl⟩))
       rw [HA.out];exact gL (t:=tk0) (n:=0) (no:=2) rfl rfl rfl rfl rfl ⟨rfl,(Below.refl _ w).alloc (zL _) _⟩
      ·have t0:((s[0].toNat:Int) == 48)=false:=by simp;omega
       cases hn:isN s[k]
       ·have hP:hd isN (s.data.toList.drop (nsz s.data.toList))=false:=by rw [hN,lI _ s (k) (by omega),hn]
        have hF:cB s.data.toList=false:=by rw [cB,<-HK.out,HZ.out,hP];simp [hz48]
        have hM:jK s.data.toList=2147483647:=by rw [jK,hL];rfl
        have BP:fD s.data.toList=[]:=by rw [fD,hL];rfl
        by_cases hr:2147483647<eP s.data.toList
        ·have e:aT s.data.toList=(tk0,0,11):=by rw [aT,hF,if_neg (by simp),hM,if_pos hr]
         have HA:=Hy e;have HP:=Hy (gU hs HK bT 32 (by simp) (by simpa using hr) _ HE)
         clear e hF hM BP hr hL hN hz48 hP;go_wp2_with (first|(go_at_call 106;refine (aL _ _).mono ?_;rw [hc];clear hc;rintro e w1 ⟨rfl,rfl⟩)|(go_at_call 140;refine (aZ _ _).mono ?_;rw [hn];clear hn;rintro e w1 ⟨rfl,rfl⟩)|(go_at_call 141;refine HP.mono ?_;rintro e w1 ⟨nv,N,rfl,av⟩;have hblk:=(av.block w.heap.size (by simp)).trans (heap_alloc_new w _);obtain ⟨JQ,qA⟩:=gI av;have HB:=Hy hblk;clear hblk;have iK:=Hy av;clear av))
         rw [HA.out];exact dx (t:=tk0) (n:=0) (no:=11) rfl rfl rfl rfl rfl HB rfl ⟨rfl,aM (((Below.refl _ w).alloc (zL _) _).trans (iK.mono (by simp))) (zL _)⟩
        ·have e:aT s.data.toList=(⟨2,0,eP s.data.toList,[]⟩,k,0):=by rw [aT,hF,if_neg (by simp),hM,if_neg hr,BP,hN]
         have HA:=Hy e;have HP:=Hy (iU hs HK bT 32 (by simp) (by simp;omega) (w.alloc (.cells #[Iv 0,Iv 0,Iv 0,.string ⟨#[]⟩] 92)))
         clear e hF hM BP hr hL hN hz48 hP;go_wp2_with (first|(go_at_call 106;refine (aL _ _).mono ?_;rw [hc];clear hc;rintro e w1 ⟨rfl,rfl⟩)|(go_at_call 140;refine (aZ _ _).mono ?_;rw [hn];clear hn;rintro e w1 ⟨rfl,rfl⟩)|(go_at_call 141;refine HP.mono ?_;rintro e w1 ⟨rfl,av⟩;have hblk:=(av.block w.heap.size (by simp)).trans (heap_alloc_new w _);obtain ⟨JQ,qA⟩:=gI av;have HB:=Hy hblk;clear hblk;have iK:=Hy av;clear av))
         rw [HA.out];exact dx (t:=⟨2,0,eP s.data.toList,[]⟩) (n:=k) (no:=0) rfl rfl rfl rfl rfl HB rfl ⟨rfl,aM (((Below.refl _ w).alloc (zL _) _).trans (iK.mono (by simp))) (zL _)⟩
       ·have hP:hd isN (s.data.toList.drop (nsz s.data.toList))=true:=by rw [hN,lI _ s (k) (by omega),hn]
        have hF:cB s.data.toList=true:=by rw [cB,hP];simp
        have e:aT s.data.toList=(tk0,0,2):=by rw [aT,if_pos hF]
        have HA:=Hy e;clear e hF hL hN hz48 hP;go_wp2_with (first|(go_at_call 106;refine (aL _ _).mono ?_;rw [hc];clear hc;rintro e w1 ⟨rfl,rfl⟩)|(go_at_call 140;refine (aZ _ _).mono ?_;rw [hn];clear hn;rintro e w1 ⟨rfl,rfl⟩))
        rw [HA.out];exact gL (t:=tk0) (n:=0) (no:=2) rfl rfl rfl rfl rfl ⟨rfl,(Below.refl _ w).alloc (zL _) _⟩
     ·cases hn:isN s[k]
      ·have hP:hd isN (s.data.toList.drop (nsz s.data.toList))=false:=by rw [hN,lI _ s (k) (by omega),hn]
       have hF:cB s.data.toList=false:=by rw [cB,<-HK.out,hP];simp [hk2]
       have hM:jK s.data.toList=2147483647:=by rw [jK,hL];rfl
       have BP:fD s.data.toList=[]:=by rw [fD,hL];rfl
       by_cases hr:2147483647<eP s.data.toList
       ·have e:aT s.data.toList=(tk0,0,11):=by rw [aT,hF,if_neg (by simp),hM,if_pos hr]
        have HA:=Hy e;have HP:=Hy (gU hs HK bT 32 (by simp) (by simpa using hr) _ HE)
        clear e hF hM BP hr hL hN hP;go_wp2_with (first|(go_at_call 106;refine (aL _ _).mono ?_;rw [hc];clear hc;rintro e w1 ⟨rfl,rfl⟩)|(go_at_call 140;refine (aZ _ _).mono ?_;rw [hn];clear hn;rintro e w1 ⟨rfl,rfl⟩)|(go_at_call 141;refine HP.mono ?_;rintro e w1 ⟨nv,N,rfl,av⟩;have hblk:=(av.block w.heap.size (by simp)).trans (heap_alloc_new w _);obtain ⟨JQ,qA⟩:=gI av;have HB:=Hy hblk;clear hblk;have iK:=Hy av;clear av))
        rw [HA.out];exact dx (t:=tk0) (n:=0) (no:=11) rfl rfl rfl rfl rfl HB rfl ⟨rfl,aM (((Below.refl _ w).alloc (zL _) _).trans (iK.mono (by simp))) (zL _)⟩
       ·have e:aT s.data.toList=(⟨2,0,eP s.data.toList,[]⟩,k,0):=by rw [aT,hF,if_neg (by simp),hM,if_neg hr,BP,hN]
        have HA:=Hy e;have HP:=Hy (iU hs HK bT 32 (by simp) (by simp;omega) (w.alloc (.cells #[Iv 0,Iv 0,Iv 0,.string ⟨#[]⟩] 92)))
        clear e hF hM BP hr hL hN hP;go_wp2_with (first|(go_at_call 106;refine (aL _ _).mono ?_;rw [hc];clear hc;rintro e w1 ⟨rfl,rfl⟩)|(go_at_call 140;refine (aZ _ _).mono ?_;rw [hn];clear hn;rintro e w1 ⟨rfl,rfl⟩)|(go_at_call 141;refine HP.mono ?_;rintro e w1 ⟨rfl,av⟩;have hblk:=(av.block w.heap.size (by simp)).trans (heap_alloc_new w _);obtain ⟨JQ,qA⟩:=gI av;have HB:=Hy hblk;clear hblk;have iK:=Hy av;clear av))
        rw [HA.out];exact dx (t:=⟨2,0,eP s.data.toList,[]⟩) (n:=k) (no:=0) rfl rfl rfl rfl rfl HB rfl ⟨rfl,aM (((Below.refl _ w).alloc (zL _) _).trans (iK.mono (by simp))) (zL _)⟩
      ·have hP:hd isN (s.data.toList.drop (nsz s.data.toList))=true:=by rw [hN,lI _ s (k) (by omega),hn]
       have hF:cB s.data.toList=true:=by rw [cB,hP];simp
       have e:aT s.data.toList=(tk0,0,2):=by rw [aT,if_pos hF]
       have HA:=Hy e;clear e hF hL hN hP;go_wp2_with (first|(go_at_call 106;refine (aL _ _).mono ?_;rw [hc];clear hc;rintro e w1 ⟨rfl,rfl⟩)|(go_at_call 140;refine (aZ _ _).mono ?_;rw [hn];clear hn;rintro e w1 ⟨rfl,rfl⟩))
       rw [HA.out];exact gL (t:=tk0) (n:=0) (no:=2) rfl rfl rfl rfl rfl ⟨rfl,(Below.refl _ w).alloc (zL _) _⟩
   ·have Sk:=Rm.1 hc;clear Rm;go_wp2_with (go_at_call 106;refine (aL _ _).mono ?_;rw [hc];clear hc;rintro e w1 ⟨rfl,rfl⟩);go_round
    case rel=>exact ⟨k+1,by omega,by omega,by go_num⟩
    case measure=>simp [intOf];omega
  ·have Sk:=xq hk hlt;clear hk;have HK:=Hy Sk;clear Sk;have hL:lng s.data.toList=false:=by rw [lng,<-HK.out,rF _ s k (by omega)]
   have hN:nsz s.data.toList=k:=by rw [nsz,hL,HK.out];rfl
   have hP:hd isN (s.data.toList.drop (nsz s.data.toList))=false:=by rw [hN,rF _ s k (by omega)]
   by_cases hk2:1<k
   ·by_cases hz48:s[0].toNat=48
    ·have t0:((s[0].toNat:Int) == 48)=true:=by simp [hz48]
     have hF:cB s.data.toList=true:=by rw [cB,<-HK.out,HZ.out];simp [hk2,hz48]
     have e:aT s.data.toList=(tk0,0,2):=by rw [aT,if_pos hF]
     have HA:=Hy e;clear e hF hL hN hP hz48;go_wp2;rw [HA.out];exact gL (t:=tk0) (n:=0) (no:=2) rfl rfl rfl rfl rfl ⟨rfl,(Below.refl _ w).alloc (zL _) _⟩
    ·have t0:((s[0].toNat:Int) == 48)=false:=by simp;omega
     have hF:cB s.data.toList=false:=by rw [cB,<-HK.out,HZ.out,hP];simp [hz48]
     have hM:jK s.data.toList=2147483647:=by rw [jK,hL];rfl
     have BP:fD s.data.toList=[]:=by rw [fD,hL];rfl
     by_cases hr:2147483647<eP s.data.toList
     ·have e:aT s.data.toList=(tk0,0,11):=by rw [aT,hF,if_neg (by simp),hM,if_pos hr]
      have HA:=Hy e;have HP:=Hy (gU hs HK bT 32 (by simp) (by simpa using hr) _ HE)
      clear e hF hM BP hr hL hN hP hz48;go_wp2_with (first|(go_at_call 141;refine HP.mono ?_;rintro e w1 ⟨nv,N,rfl,av⟩;have hblk:=(av.block w.heap.size (by simp)).trans (heap_alloc_new w _);obtain ⟨JQ,qA⟩:=gI av;have HB:=Hy hblk;clear hblk;have iK:=Hy av;clear av))
      rw [HA.out];exact dx (t:=tk0) (n:=0) (no:=11) rfl rfl rfl rfl rfl HB rfl ⟨rfl,aM (((Below.refl _ w).alloc (zL _) _).trans (iK.mono (by simp))) (zL _)⟩
     ·have e:aT s.data.toList=(⟨2,0,eP s.data.toList,[]⟩,k,0):=by rw [aT,hF,if_neg (by simp),hM,if_neg hr,BP,hN]
      have HA:=Hy e;have HP:=Hy (iU hs HK bT 32 (by simp) (by simp;omega) (w.alloc (.cells #[Iv 0,Iv 0,Iv 0,.string ⟨#[]⟩] 92)))
      clear e hF hM BP hr hL hN hP hz48;go_wp2_with (first|(go_at_call 141;refine HP.mono ?_;rintro e w1 ⟨rfl,av⟩;have hblk:=(av.block w.heap.size (by simp)).trans (heap_alloc_new w _);obtain ⟨JQ,qA⟩:=gI av;have HB:=Hy hblk;clear hblk;have iK:=Hy av;clear av))
      rw [HA.out];exact dx (t:=⟨2,0,eP s.data.toList,[]⟩) (n:=k) (no:=0) rfl rfl rfl rfl rfl HB rfl ⟨rfl,aM (((Below.refl _ w).alloc (zL _) _).trans (iK.mono (by simp))) (zL _)⟩
   ·have hF:cB s.data.toList=false:=by rw [cB,<-HK.out,hP];simp [hk2]
    have hM:jK s.data.toList=2147483647:=by rw [jK,hL];rfl
    have BP:fD s.data.toList=[]:=by rw [fD,hL];rfl
    by_cases hr:2147483647<eP s.data.toList
    ·have e:aT s.data.toList=(tk0,0,11):=by rw [aT,hF,if_neg (by simp),hM,if_pos hr]
     have HA:=Hy e;have HP:=Hy (gU hs HK bT 32 (by simp) (by simpa using hr) _ HE)
     clear e hF hM BP hr hL hN hP;go_wp2_with (first|(go_at_call 141;refine HP.mono ?_;rintro e w1 ⟨nv,N,rfl,av⟩;have hblk:=(av.block w.heap.size (by simp)).trans (heap_alloc_new w _);obtain ⟨JQ,qA⟩:=gI av;have HB:=Hy hblk;clear hblk;have iK:=Hy av;clear av))
     rw [HA.out];exact dx (t:=tk0) (n:=0) (no:=11) rfl rfl rfl rfl rfl HB rfl ⟨rfl,aM (((Below.refl _ w).alloc (zL _) _).trans (iK.mono (by simp))) (zL _)⟩
    ·have e:aT s.data.toList=(⟨2,0,eP s.data.toList,[]⟩,k,0):=by rw [aT,hF,if_neg (by simp),hM,if_neg hr,BP,hN]
     have HA:=Hy e;have HP:=Hy (iU hs HK bT 32 (by simp) (by simp;omega) (w.alloc (.cells #[Iv 0,Iv 0,Iv 0,.string ⟨#[]⟩] 92)))
     clear e hF hM BP hr hL hN hP;go_wp2_with (first|(go_at_call 141;refine HP.mono ?_;rintro e w1 ⟨rfl,av⟩;have hblk:=(av.block w.heap.size (by simp)).trans (heap_alloc_new w _);obtain ⟨JQ,qA⟩:=gI av;have HB:=Hy hblk;clear hblk;have iK:=Hy av;clear av))
     rw [HA.out];exact dx (t:=⟨2,0,eP s.data.toList,[]⟩) (n:=k) (no:=0) rfl rfl rfl rfl rfl HB rfl ⟨rfl,aM (((Below.refl _ w).alloc (zL _) _).trans (iK.mono (by simp))) (zL _)⟩
end
section
open Go.RowKit
theorem aP (t:Tok):iF t=.agg #[Iv t.k,Iv t.p,Iv t.n,Ss t.s]:=rfl
theorem Dc (s:ByteArray)(hs:s.size<=1048576)(h0:0<s.size)(w:World)(hE:Env w) :
  Calls prog 75 #[.string s] w fun e w'=>e=.returned (scV (sc s.data.toList))/\Zw w w':=by
 have UK:Env (w.alloc (.cells #[Iv 0,Iv 0,Iv 0,.string ⟨#[]⟩] 92)):=hE.of ((Below.refl _ w).alloc (zL _) _);have HE:=Hy UK;clear UK hE;have WL:s.size<=maxLen:=by unfold maxLen;omega
 have hL:=hd0 isL s h0;have hD:=hd0 isD s h0;cases hl:isL s[0]
 ·rw [hl] at hL;cases hd:isD s[0]
  ·rw [hd] at hD;have e:sc s.data.toList=ib s.data.toList:=by rw [sc,hL,if_neg (by simp),hD,if_neg (by simp)]
   have HA:=Hy e;clear e hL hD;rcases hsc:ib s.data.toList with ⟨t,n,no⟩;have HS:=Hy hsc;clear hsc;go_enter func75,ntmps75;go_wp2_with (first
    | (go_at_call 104;refine (jw _ _).mono ?_;rw [hl];clear hl;rintro e w1 ⟨rfl,rfl⟩)
    | (go_at_call 106;refine (aL _ _).mono ?_;rw [hd];clear hd;rintro e w1 ⟨rfl,rfl⟩)
    | (go_at_call 108;refine (uH s WL _ HE).mono ?_;rw [HS.out,scV,aP];rintro e w1 ⟨rfl,av⟩;have hblk:=(av.block w.heap.size (by simp)).trans (heap_alloc_new w _);obtain ⟨JQ,qA⟩:=gI av;have HB:=Hy hblk;clear hblk;have iK:=Hy av;clear av))
   rw [HA.out,HS.out];exact dx (t:=t) (n:=n) (no:=no) rfl rfl rfl rfl rfl HB rfl ⟨rfl,aM (((Below.refl _ w).alloc (zL _) _).trans (iK.mono (by simp))) (zL _)⟩
  ·rw [hd] at hD;have e:sc s.data.toList=aT s.data.toList:=by rw [sc,hL,if_neg (by simp),hD,if_pos rfl]
   have h1:1<=len isD s.data.toList:=rE hD;have HA:=Hy e;clear e hL hD;rcases hsc:aT s.data.toList with ⟨t,n,no⟩;have HS:=Hy hsc;clear hsc;go_enter func75,ntmps75;go_wp2_with (first
    | (go_at_call 104;refine (jw _ _).mono ?_;rw [hl];clear hl;rintro e w1 ⟨rfl,rfl⟩)
    | (go_at_call 106;refine (aL _ _).mono ?_;rw [hd];clear hd;rintro e w1 ⟨rfl,rfl⟩)
    | (go_at_call 107;refine (qQ s hs h1 _ HE).mono ?_;rw [HS.out,scV,aP];rintro e w1 ⟨rfl,av⟩;have hblk:=(av.block w.heap.size (by simp)).trans (heap_alloc_new w _);obtain ⟨JQ,qA⟩:=gI av;have HB:=Hy hblk;clear hblk;have iK:=Hy av;clear av))
   rw [HA.out,HS.out];exact dx (t:=t) (n:=n) (no:=no) rfl rfl rfl rfl rfl HB rfl ⟨rfl,aM (((Below.refl _ w).alloc (zL _) _).trans (iK.mono (by simp))) (zL _)⟩
 ·rw [hl] at hL;have e:sc s.data.toList=fK s.data.toList:=by rw [sc,hL,if_pos rfl]
  have h1:1<=len isN s.data.toList:=rE (Al (fun c=>rA) hL)
  have HA:=Hy e;clear e hL hD;rcases hsc:fK s.data.toList with ⟨t,n,no⟩;have HS:=Hy hsc;clear hsc;go_enter func75,ntmps75;go_wp2_with (first
   | (go_at_call 104;refine (jw _ _).mono ?_;rw [hl];clear hl;rintro e w1 ⟨rfl,rfl⟩)
   | (go_at_call 105;refine (uI s WL h1 _).mono ?_;rw [HS.out,scV,aP];rintro e w1 ⟨rfl,av⟩;have hblk:=(av.block w.heap.size (by simp)).trans (heap_alloc_new w _);obtain ⟨JQ,qA⟩:=gI av;have HB:=Hy hblk;clear hblk;have iK:=Hy av;clear av))
  rw [HA.out,HS.out];exact dx (t:=t) (n:=n) (no:=no) rfl rfl rfl rfl rfl HB rfl ⟨rfl,aM (((Below.refl _ w).alloc (zL _) _).trans (iK.mono (by simp))) (zL _)⟩
end
section
open Go.RowKit Go.Shelf
abbrev tE:TypeId:=92
abbrev tS:TypeId:=9
def KpT (n₀ Bn:Nat) (s:ByteArray) (W W':World):Prop:=Below n₀ W W'/\(Boxed W Bn tS (.string s)->Boxed W' Bn tS (.string s))
theorem aj {W W':World}(h:Zw W W'):W.grownBy W' none:=⟨h.os,h.tape,h.output,h.size,fun k hk _=>h.block k hk⟩
theorem Bc (t:List UInt8)(a:Nat)(h:a<=t.length):1<=(jY t a).length:=by
 rcases Nat.lt_or_ge a t.length with h1|h1
 ·by_cases h0:(sc (t.drop a)).2.2=0
  ·rw [qP h1 h0];simp
  ·rw [sV h1 h0];simp
 ·rw [sU (by omega)];simp
theorem wG (s:ByteArray)(hs:s.size<=maxLen)(w:World) :
  Calls prog 74 #[.string s,Iv 0] w fun e w'=>e=.returned (Iv (fV s.data.toList 0))/\w=w':=mO s 0 (Nat.zero_le _) hs w
theorem x9 (n:Nat)(hn:1<=n)(l Bn:Nat)(w0:World)(hE:Env w0)(s:ByteArray)(hs:s.size<=1048576)(J Jx:List (Tok×Int)->World->Prop)(W:World)(hJ:AbidesFrom W.heap.size J)
    (hY:∀pre (x:Tok×Int) W1,J pre W1->pre.length< (kW s.data.toList).length->YieldAt Fence.wide (n - 1) prog l #[iF x.1,Iv x.2] W1 fun e W'=>
      (e=.returned (.bool true)/\J (pre ++ [x]) W'/\KpT w0.heap.size Bn s W1 W')∨(e=.returned (.bool false)/\Jx (pre ++ [x]) W'))
    (hB:Zw w0 W) (hBn:Boxed W Bn tS (.string s)) (h0:J [] W) :
    CallsIn Fence.wide n prog 73 #[.func (.yield l) #[] #[],Pt Bn] W fun e W'=>(∃v,e=.returned v)/\
      ((∃ys,ys=kW s.data.toList/\J ys W')∨(∃pre,pre <+:kW s.data.toList/\Jx pre W')):=by
  have WL:s.size<=maxLen:=by unfold maxLen;omega
  have Bo:=hBn.cell;have hsk0:fV s.data.toList 0<=s.size:=by rw [Lib.size_eq];exact zH _ (Nat.zero_le _)
  refine callsIn_of_wp func73 rfl trivial ?_ rfl;simp only [ntmps73,List.size_toArray,List.length_cons,List.length_nil,Nat.reduceAdd,Nat.reduceSub,Array.replicate_succ,Array.replicate_zero,List.push_toArray,List.append_toArray,List.nil_append,List.cons_append]
  gi_wp2_with (refine ⟨trivial,?_⟩;gi_at_call 74;refine (callsIn_wide.2 (wG s WL _)).mono ?_;rintro e w1 ⟨rfl,rfl⟩)
  gi_loopw [3] (fun v wr=>∃(a:Nat) (pre:List (Tok×Int)),v=Iv a/\a<=s.size/\kW s.data.toList=pre ++ jY s.data.toList a/\J pre wr/\Boxed wr Bn tS (.string s)/\Zw w0 wr) (fun v _=>s.size - (intOf v).toNat)
  case atStart=>exact ⟨_,[],rfl,hsk0,rfl,h0,hBn,hB⟩
  case round=>
    obtain ⟨a,pre,rfl,ha,hq,hJr,Wm,hbr⟩:=hrel;have hcr:=Wm.cell;have HQ:=Hy hq;clear hq;by_cases hlt:a<s.size
    · have hz:(s.extract a s.size).size=s.size - a:=by rw [ByteArray.size_extract];omega
      have Tc:(s.extract a s.size).size<=1048576:=by omega
      have Zr:0< (s.extract a s.size).size:=by omega
      have hEr:=hE.of hbr;have HS:=Hy (Dc (s.extract a s.size) Tc Zr wr hEr);have OV:=nV (l:=s.data.toList.drop a);rw [List.length_drop,<-Lib.size_eq] at OV;have hd:(s.extract a s.size).data.toList=s.data.toList.drop a:=Lib.extract_to_end s a;have NQ:=qP (t:=s.data.toList) (a:=a) (by rw [<-Lib.size_eq];exact hlt)
      have V6:=sV (t:=s.data.toList) (a:=a) (by rw [<-Lib.size_eq];exact hlt)
      have uM:pre.length< (kW s.data.toList).length:=by
        rw [HQ.out,List.length_append];have:=Bc s.data.toList a (by rw [<-Lib.size_eq];exact ha);omega
      rcases hsc:sc (s.data.toList.drop a) with ⟨t,sz,no⟩;rw [hsc] at OV NQ V6;simp only at OV NQ V6;have Vg:=HS.out;rw [hd,hsc,scV,aP] at Vg;have qh:=Hy Vg;have HOK:=Hy NQ;have HBAD:=Hy V6;have HLEN:=Hy uM;clear HS Vg NQ V6 uM hsc hd Tc Zr hz;simp only at qh;have HJ:=Hy hJr;have HBR:=Hy Wm;have Hbr:=Hy hbr;clear hJr Wm hbr hEr;by_cases hno:no=0
      · subst hno
        have hq2:=HQ.trans (by rw [HOK.out rfl])
        have UT:=Hy hq2;clear hq2;have sQ:=OV rfl;have ha2:a+sz<=s.size:=by omega
        have e3:((a:Int)+(sz:Int))=((a+sz:Nat):Int):=by simp
        have HSK:=Hy (fun W=>mO s (a+sz) ha2 WL W)
        have hske:fV s.data.toList (a+sz)<=s.size:=by rw [Lib.size_eq];exact zH _ (by rw [<-Lib.size_eq];exact ha2)
        have hskg:=FB s.data.toList (a+sz);have Zf:=Hy e3;clear OV e3
        gi_wp2_with (first
          | (refine ⟨trivial,?_⟩;gi_at_call 75;refine (callsIn_wide.2 qh).mono ?_;rintro e w1 ⟨rfl,av⟩;
              have UA:=(av.block Bn HBR.lt).trans HBR;have vS:=Hy UA;clear UA;have hcx:=av.cell (p:=Ad Bn 0) HBR.lt;
              obtain ⟨fn,tmps,assign,body,hy,hR⟩:=hY pre (t.to a,0) (w1.alloc (.cells #[Iv t.k,Iv a,Iv t.n,Ss t.s] tE)) (hJ _ _ _ none HJ (aj (av.trans ((zB _ _).alloc av.size _))) (fun r e=>by cases e)) HLEN;dsimp only [iF,Tok.to] at hy;have iK:=Hy av;clear av))
        refine hR.mono ?_;clear hR hy;rintro e W3 (⟨rfl,ZM,hk3⟩|⟨rfl,UH⟩)
        · have lW:=hk3.2 ((show Boxed w1 Bn tS (.string s) from vS).alloc _)
          have NI:=lW.cell;have QB:=Hy lW;have HJ3:=Hy ZM;have HK3:=Hy hk3;clear lW ZM hk3
          gi_wp2_with (refine ⟨trivial,?_⟩;gi_at_call 74;rw [Zf.out];refine (callsIn_wide.2 (HSK _)).mono ?_;rintro e w4 ⟨rfl,rfl⟩)
          go_roundw
          case rel=>exact ⟨_,pre ++ [(t.to a,0)],rfl,hske,by rw [UT.out];simp,HJ3,QB,(Hbr.trans ((iK.trans ((zB _ _).alloc iK.size _)).mono Hbr.size)).trans HK3.1⟩
          case measure=>simp [intOf];omega
        · gi_wp2
          refine bodyPost_ret (results_none rfl _ _ _) rfl ?_;exact ⟨⟨_,rfl⟩,.inr ⟨pre ++ [(t.to a,0)],⟨_,by rw [UT.out];simp;rfl⟩,UH⟩⟩
      · have hno':(no != 0)=true:=by simpa using hno
        have hq2:=HQ.trans (by rw [HBAD.out hno])
        have UT:=Hy hq2;clear hq2 OV
        gi_wp2_with (first
          | (refine ⟨trivial,?_⟩;gi_at_call 75;refine (callsIn_wide.2 qh).mono ?_;rintro e w1 ⟨rfl,av⟩;
              have UA:=(av.block Bn HBR.lt).trans HBR;have vS:=Hy UA;clear UA;have hcx:=av.cell (p:=Ad Bn 0) HBR.lt;
              obtain ⟨fn,tmps,assign,body,hy,hR⟩:=hY pre (t.to a,no) (w1.alloc (.cells #[Iv t.k,Iv a,Iv t.n,Ss t.s] tE)) (hJ _ _ _ none HJ (aj (av.trans ((zB _ _).alloc av.size _))) (fun r e=>by cases e)) HLEN;dsimp only [iF,Tok.to] at hy;have iK:=Hy av;clear av))
        refine hR.mono ?_;clear hR hy;rintro e W3 (⟨rfl,ZM,hk3⟩|⟨rfl,UH⟩)
        · gi_wp2
          refine bodyPost_ret (results_none rfl _ _ _) rfl ?_;exact ⟨⟨_,rfl⟩,.inl ⟨_,rfl,by rw [UT.out];exact ZM⟩⟩
        · gi_wp2
          refine bodyPost_ret (results_none rfl _ _ _) rfl ?_;exact ⟨⟨_,rfl⟩,.inr ⟨_,by rw [UT.out];exact List.prefix_refl _,UH⟩⟩
    · have hae:a=s.size:=by omega
      have hq2:=HQ.trans (by rw [sU (t:=s.data.toList) (a:=a) (by rw [hae,Lib.size_eq])])
      have UT:=Hy hq2;have uM:pre.length< (kW s.data.toList).length:=by rw [hq2];simp
      clear hq2;obtain ⟨fn,tmps,assign,body,hy,hR⟩:=hY pre (⟨4,a,0,[]⟩,0) wr hJr uM;dsimp only [iF] at hy;rw [hae] at hy;have HAE:=Hy hae;clear hae uM
      gi_wp2
      refine hR.mono ?_;clear hR hy;rintro e W3 (⟨rfl,ZM,hk3⟩|⟨rfl,UH⟩)
      · gi_wp2
        go_end0;exact ⟨⟨_,rfl⟩,.inl ⟨_,rfl,by rw [UT.out];exact ZM⟩⟩
      · gi_wp2
        go_end0;exact ⟨⟨_,rfl⟩,.inr ⟨_,by rw [UT.out];exact List.prefix_refl _,UH⟩⟩
end
section
open Go.RowKit Go.Shelf
attribute [local go_sem] Oper.semAt_some
abbrev tL:TypeId:=51
abbrev tD:TypeId:=33
def dV (t:Tok):List Value:=[Iv t.k,Iv t.p,Iv t.n,Ss t.s]
def fT (l:List Tok):List Value:=l.flatMap dV
theorem qg (l:List Tok)(t:Tok):fT (l ++ [t])=fT l ++ dV t:=by simp [fT]
theorem vP {β:Type}(b:Nat)(t:TypeId)(f:β->Array Value):Own (fun s W=>Blk W b t (f s)):=fun s X Y row hs hg ai=>
 Blk.kept hs hg (fun e'=>by obtain ⟨o,ho,hc⟩:=ai b e'.symm;rw [show X.heap[b]? =_ from hs] at ho;cases ho;cases hc)
theorem AX (n:Nat)(s:ByteArray)(w:World) :
  CallsIn Fence.wide n prog 41 #[.string s] w fun e w'=>e=.returned (.func (.func 73) #[] #[Pt w.heap.size])/\w'=w.alloc (.cells #[.string s] tS):=by
 refine callsIn_of_wp func41 rfl trivial ?_ rfl;simp only [ntmps41,List.size_toArray,List.length_cons,List.length_nil,Nat.reduceAdd,Nat.reduceSub,Array.replicate_succ,Array.replicate_zero,List.push_toArray,List.append_toArray,List.nil_append,List.cons_append]
 gi_wp2
 go_ret;exact ⟨rfl,rfl⟩
theorem uE (n:Nat)(hn:1<=n)(Bn:Nat)(w0:World)(hE:Env w0)(s:ByteArray)(hs:s.size<=1048576)(w:World)(hB:Zw w0 w)(hBn:Boxed w Bn tS (.string s)) :
  SeqStopsK Fence.wide n prog 73 #[Pt Bn] (fun x:Tok×Int=>#[iF x.1,Iv x.2]) (KpT w0.heap.size Bn s) (fun ys=>ys=kW s.data.toList) (fun pre=>pre <+:kW s.data.toList) (kW s.data.toList).length w:=fun l J Jx W hW hJ _ hY h0=>
 x9 n hn l Bn w0 hE s hs J Jx W hJ hY (hB.trans (hW.mono hB.size)) ((hW.block Bn hBn.lt).trans hBn) h0
theorem KpT.t {n₀ Bn:Nat}{s:ByteArray}{A B C:World}(h:KpT n₀ Bn s A B)(k:KpT n₀ Bn s B C):KpT n₀ Bn s A C:=by
 obtain ⟨h1,h2⟩:=h;obtain ⟨k1,k2⟩:=k;exact ⟨h1.trans k1,fun x=>k2 (h2 x)⟩
theorem KpT.b {n₀ Bn:Nat}{s:ByteArray}{w:World}(h1:n₀<=w.heap.size)(h2:Bn<w.heap.size)(W:World)(l:Nat)(o o':Obj)(hl:w.heap.size<=l)(h:W.heap[l]? =some o)(hc:o.isCells=false)(hw:o.isWalk=false):KpT n₀ Bn s W (W.putObj l o'):=
 ⟨belowK_b (w:=w) h1 W l o o' hl h hc hw,fun hb=>hb.kept (grownBy_putObj' W l o') (fun e=>by cases e;omega)⟩
def EZ (w:World) (pre:List (Tok×Int)) (W:World):Prop:=
 ((((∃v,Boxed W (w.heap.size+1+1) tL v/\W.ownsRow w.heap.size tE 4 v pre.length (fT (pre.map (·.1)))/\True)/\Boxed W w.heap.size tL (Sn))/\Blk W (w.heap.size+1) tD #[Iv 0,Iv 0])/\Zw w W)/\(∀x∈pre,x.2=0)/\w.heap.size+1+1+1<W.heap.size
def Iq (w:World) (c:Code) (pre:List (Tok×Int)) (W:World):Prop:=
 (∃p:List (Tok×Int)×Tok×Int,(Boxed W w.heap.size tL (Sn)/\Blk W (w.heap.size+1) tD #[Iv p.2.2,Iv p.2.1.p])/\Zw w W/\(c=.ret/\pre=p.1 ++ [(p.2.1,p.2.2)]/\p.2.2≠0/\∀x∈p.1,x.2=0))
theorem EZ.own {w:World}{B:Nat}(hB:w.heap.size<=B):OwnFrom B (EZ w):=
 OwnFrom.and (OwnFrom.and (OwnFrom.and (OwnFrom.and (Own.from (holdsRow_own w.heap.size (w.heap.size+1+1) tL tE 4 (fun pre:List (Tok×Int)=>pre.length) (fun pre:List (Tok×Int)=>fT (pre.map (·.1))) (fun _ _=>True)) B) (Own.from (boxed_own w.heap.size tL (fun _=>Sn)) B)) (Own.from (vP (w.heap.size+1) tD (fun _=>#[Iv 0,Iv 0])) B)) (ownFrom_below (zL _) hB)) (OwnFrom.and (ownFrom_pure B (fun pre:List (Tok×Int)=>∀x∈pre,x.2=0)) (fun _ _ _ _ hs hg _=>zT hs hg.size))
theorem Iq.own {w:World}{B:Nat}(hB:w.heap.size<=B)(c:Code):OwnFrom B (Iq w c):=by
 rintro pre W W' row ⟨p,⟨h1,h2⟩,h3,h4⟩ hg hr;exact ⟨p,⟨boxed_own w.heap.size tL (fun _:Unit=>Sn) () W W' row h1 hg (fun r e=>(hr r e).2),vP (w.heap.size+1) tD (fun _:Unit=>#[Iv p.2.2,Iv p.2.1.p]) () W W' row h2 hg (fun r e=>(hr r e).2)⟩,
  ownFrom_below (β:=Unit) (zL _) hB () W W' row h3 hg hr,h4⟩
def vW (w:World) (x:List Tok×Int×Int) (e:Ending) (w':World):Prop:=
 ∃v,e=.returned (.tuple #[v,.agg #[Iv x.2.1,Iv x.2.2]])/\w'.ownsRow w.heap.size tE 4 v x.1.length (fT x.1)/\Zw w w'
theorem Bd {w:World}{b:Nat}{v:Value}(h:Boxed w b tL v):(loadVar tL (Ad b 0)).run prog w=.ok v w:=by
 have hc:=h.cell;unfold loadVar;simp [go_sem,Tryz.isAgg51,hc]
theorem lV {fn:Func}{b c:Nat}{v x y:Value}(h:fn.results= #[.cell 2 tL,.cell 3 tD])(tmps:Array Value)(w:World)
  (h2:tmps.getD 2 undef=Pt b) (h3:tmps.getD 3 undef=Pt c) (hb:Boxed w b tL v) (hc:Blk w c tD #[x,y]) :
  (results fn tmps).run prog w=.ok (.tuple #[v,.agg #[x,y]]) w:=by
 have hr:w.rangeAt c 0 [x,y]:=by
  intro j u hu;rw [Nat.zero_add,hc.cell]
  simpa using hu
 have hd:=run_loadVar_mid (P:=prog) w c 0 tD [x,y] _ hr underlying33 rfl (by kernel_rfl)
 have hl:=Bd hb;simp only [results,h];simp [Sem.run_bind,Result.andThen];rw [show tmps[2]?.getD undef=Pt b from by simpa using h2,show tmps[3]?.getD undef=Pt c from by simpa using h3]
 simp [asAddr,hl,hd]
theorem Jj (n a:Nat)(l:List UInt8):(sq n a l).length<=l.length+1:=by
 induction n generalizing a l with
 |zero=>simp [sq]
 |succ n ih=>
  simp only [sq];split
  ·simp
  ·rename_i hl;split
   ·simp
   ·rename_i h0;have h1:=nV (l:=l) (by simpa using h0)
    have h2:=ih (a+(sc l).2.1+sk false (l.drop (sc l).2.1)) (l.drop ((sc l).2.1+sk false (l.drop (sc l).2.1)));rw [List.length_drop] at h2;rw [List.length_cons];omega
theorem CW (s:ByteArray):(kW s.data.toList).length<=s.size+1:=by
 have h:=Jj (s.data.toList.length+1 - fV s.data.toList 0) (fV s.data.toList 0) (s.data.toList.drop (fV s.data.toList 0));rw [List.length_drop] at h;unfold kW jY;rw [Lib.size_eq];omega
theorem IJ:(prog.info? tE).map (fun i=>(i.zero,i.size,i.bytes))=some (some (.agg #[Iv 0,Iv 0,Iv 0,.string ⟨#[]⟩]),4,40):=by kernel_rfl
theorem yz {xs pre:List (Tok×Int)}{p:List (Tok×Int)}{t:Tok}{no:Int}(h:pre <+:xs)(he:pre=p ++ [(t,no)])(hp:∀x∈p,x.2=0)(hno:no≠0):res [] xs=([],no,t.p):=by
 obtain ⟨q,rfl⟩:=h;rw [he,List.append_assoc,Dq _ _ _ hp,List.singleton_append,res,if_pos hno]
theorem zM {xs:List (Tok×Int)}(hp:∀x∈xs,x.2=0):res [] xs=(xs.map (·.1),0,0):=by
 have h:=Dq [] xs [] hp;rw [List.append_nil] at h;rw [h,res,List.nil_append]
theorem Nr {W:World}{b c:Nat}{v:Value}(h:Boxed W b tL v)(x y:Value)(hc:b≠c):Boxed (((W.setCell (Ad b 0) v).setCell (Ad c 0) x).setCell (Ad c 1) y).drew b tL v:=
 Blk.far (Blk.far (h.set v) hc x) hc y
theorem Ns {W:World}{b c:Nat}{u v:Value}(h:Blk W c tD #[u,v])(z x y:Value)(hc:b≠c):Blk (((W.setCell (Ad b 0) z).setCell (Ad c 0) x).setCell (Ad c 1) y).drew c tD #[x,y]:=
 Blk.af (cs:=#[x,v]) (Blk.af (cs:=#[u,v]) (Blk.far h (p:=Ad b 0) (Ne.symm hc) z) 0 x) 1 y
theorem grownBy_set (W:World)(p:Addr)(v:Value):W.grownBy (W.setCell p v) (some p.block):=
 ⟨rfl,rfl,rfl,(KeepsWalks.setCell W _ v).size,fun k _ hk=>Below.heap_setCell _ _ _ k (fun e=>hk (by rw [e]))⟩
theorem Gp {W:World}{w:World}{D b:Nat}{u v x y:Value}{k:Nat}{xs:List Value}{d0 d1:Value}(hD:b+1<D)(IB:b=w.heap.size)(OZ:Boxed W b tL u)(Ot:Blk W (b+1) tD #[d0,d1])(ai:W.ownsRow w.heap.size tE 4 v k xs)(eu:Zw w W)
  (hK:W.heap[D]? =some (.deferred (some []))) (z:Value) :
  (((W.setCell (Ad b 0) z).setCell (Ad (b+1) 0) x).setCell (Ad (b+1) 1) y).heap[D]? =some (.deferred (some []))/\
  Boxed ((((W.setCell (Ad b 0) z).setCell (Ad (b+1) 0) x).setCell (Ad (b+1) 1) y).putObj D (.deferred none)) b tL z/\
  Blk ((((W.setCell (Ad b 0) z).setCell (Ad (b+1) 0) x).setCell (Ad (b+1) 1) y).putObj D (.deferred none)) (b+1) tD #[x,y]/\
  ((((W.setCell (Ad b 0) z).setCell (Ad (b+1) 0) x).setCell (Ad (b+1) 1) y).putObj D (.deferred none)).ownsRow w.heap.size tE 4 v k xs/\
  Zw w ((((W.setCell (Ad b 0) z).setCell (Ad (b+1) 0) x).setCell (Ad (b+1) 1) y).putObj D (.deferred none)):=by
 have YH:=(((KeepsOthers.setCell W (Ad b 0) z).trans (KeepsOthers.setCell _ (Ad (b+1) 0) x)).trans (KeepsOthers.setCell _ (Ad (b+1) 1) y)).same D _ hK rfl;have h1:Boxed (((W.setCell (Ad b 0) z).setCell (Ad (b+1) 0) x).setCell (Ad (b+1) 1) y) b tL z:=Blk.far (Blk.far (OZ.set z) (by simp) x) (by simp) y
 have h2:Blk (((W.setCell (Ad b 0) z).setCell (Ad (b+1) 0) x).setCell (Ad (b+1) 1) y) (b+1) tD #[x,y]:=Blk.af (cs:=#[x,d1]) (Blk.af (cs:=#[d0,d1]) (Ot.far (p:=Ad b 0) (by simp) z) 0 x) 1 y
 have r1:=ai.kept (grownBy_set W (Ad b 0) z) (.inr (OZ.not_row (by decide) ai).symm)
 have r2:=r1.kept (grownBy_set _ (Ad (b+1) 0) x) (.inr ((Ot.far (p:=Ad b 0) (by simp) z).not_row (by decide) r1).symm)
 have r3:=r2.kept (grownBy_set _ (Ad (b+1) 1) y) (.inr ((Blk.af (Ot.far (p:=Ad b 0) (by simp) z) 0 x).not_row (by decide) r2).symm)
 have lW:=((eu.setCell (p:=Ad b 0) (by simp [IB]) z).setCell (p:=(Ad (b+1) 0)) (by simp [IB]) x).setCell (p:=(Ad (b+1) 1)) (by simp [IB]) y
 refine ⟨YH,h1.kept (grownBy_putObj' _ D _) (fun e=>by cases e;omega),h2.kept (grownBy_putObj' _ D _) (fun e=>by cases e;omega),ownsRow_putObj r3 _ YH rfl,lW.trans (belowK_b (w:=w) (zL _) _ D _ _ (by omega) YH rfl rfl)⟩
theorem D6 {W:World}{w:World}{D b:Nat}{u x y:Value}(hD:b+1<D)(IB:b=w.heap.size)(OZ:Boxed W b tL u)(Ot:Blk W (b+1) tD #[x,y])(eu:Zw w W)
  (hK:W.heap[D]? =some (.deferred (some []))) :
  Boxed (W.putObj D (.deferred none)) b tL u/\Blk (W.putObj D (.deferred none)) (b+1) tD #[x,y]/\Zw w (W.putObj D (.deferred none)):=
 ⟨OZ.kept (grownBy_putObj' _ D _) (fun e=>by cases e;omega),Ot.kept (grownBy_putObj' _ D _) (fun e=>by cases e;omega),eu.trans (belowK_b (w:=w) (zL _) _ D _ _ (by omega) hK rfl rfl)⟩
theorem Km (s:ByteArray)(hs:s.size<=maxLen)(w:World)(hE:Env w) :
  CallsIn Fence.wide 9 prog 17 #[.string s] w (vW w (gm s.data.toList)):=by
 by_cases hbig:1048576<s.size
 ·have hL:gm s.data.toList=([],10,0):=by rw [gm,if_pos (by rw [<-Lib.size_eq];exact hbig)]
  refine callsIn_of_wp func17 rfl trivial ?_ rfl;simp only [ntmps17,List.size_toArray,List.length_cons,List.length_nil,Nat.reduceAdd,Nat.reduceSub,Array.replicate_succ,Array.replicate_zero,List.push_toArray,List.append_toArray,List.nil_append,List.cons_append]
  gi_wp2
  rw [hL];have b1:=(Boxed.new w tL (Sn)).alloc (.cells #[Iv 10,Iv 0] tD);have b2:=Blk.new (w.alloc (.cells #[Sn] tL)) tD #[Iv 10,Iv 0];rw [World.size_alloc] at b2;refine bodyPost_ret (lV rfl _ _ rfl rfl b1 b2) rfl ⟨_,rfl,World.ownsRow_nil _ _ _ _,((Below.refl _ w).alloc (zL _) _).alloc (by simp) _⟩
 ·have GN:s.size<=1048576:=by omega
  have V4:decide ((1048576:Int)< (s.size:Int))=false:=by simp;omega
  have hq:=CW s;obtain ⟨i0,hi,vQ,sI,ru⟩:=info_parts IJ;have hL:gm s.data.toList=res [] (kW s.data.toList):=by rw [gm,if_neg (by rw [<-Lib.size_eq];exact hbig)]
  rw [hL];clear hL;refine callsIn_of_wp_marks func17 rfl trivial ?_ rfl;simp only [ntmps17,List.size_toArray,List.length_cons,List.length_nil,Nat.reduceAdd,Nat.reduceSub,Array.replicate_succ,Array.replicate_zero,List.push_toArray,List.append_toArray,List.nil_append,List.cons_append]
  gi_wp2_with (refine ⟨trivial,?_⟩;gi_at_call 41;refine (AX _ s _).mono ?_;rintro e w1 ⟨rfl,rfl⟩)
  have bR:=((Boxed.new w tL (Sn)).alloc (.cells #[Iv 0,Iv 0] tD)).alloc (.cells #[Sn] tL) |>.alloc (.cells #[.string s] tS)
  have bD:=((Blk.new (w.alloc (.cells #[Sn] tL)) tD #[Iv 0,Iv 0]).alloc (.cells #[Sn] tL)).alloc (.cells #[.string s] tS);have bO:=(Boxed.new ((w.alloc (.cells #[Sn] tL)).alloc (.cells #[Iv 0,Iv 0] tD)) tL (Sn)).alloc (.cells #[.string s] tS);have bN:=Boxed.new (((w.alloc (.cells #[Sn] tL)).alloc (.cells #[Iv 0,Iv 0] tD)).alloc (.cells #[Sn] tL)) tS (.string s);simp only [World.size_alloc] at bR bD bO bN;have ZP:Zw w ((((w.alloc (.cells #[Sn] tL)).alloc (.cells #[Iv 0,Iv 0] tD)).alloc (.cells #[Sn] tL)).alloc (.cells #[.string s] tS)):=((((Below.refl _ w).alloc (zL _) _).alloc (by simp) _).alloc (by simp;omega) _).alloc (by simp;omega) _
  have sQ:((((w.alloc (.cells #[Sn] tL)).alloc (.cells #[Iv 0,Iv 0] tD)).alloc (.cells #[Sn] tL)).alloc (.cells #[.string s] tS)).heap.size=w.heap.size+4:=by simp
  obtain ⟨W0,hW0⟩:∃W0,(((w.alloc (.cells #[Sn] tL)).alloc (.cells #[Iv 0,Iv 0] tD)).alloc (.cells #[Sn] tL)).alloc (.cells #[.string s] tS)=W0:=⟨_,rfl⟩;rw [hW0] at bR bD bO bN ZP sQ |-;clear hW0;refine wpIn_rangeFunc_ownH rfl (by omega) (gf:=73) (lb:=#[Pt (w.heap.size+1+1+1)]) rfl trivial (enters_of func73 (by kernel_rfl) rfl)
   (uE _ (by omega) (w.heap.size+1+1+1) w hE s GN W0 ZP bN) KpT.t (KpT.b (by omega) (by omega)) (zB _ _) (fun _=>rfl)
   (EZ w) (Iq w) (EZ.own (by omega)) (Iq.own (by omega)) ⟨⟨⟨⟨⟨_,bO,World.ownsRow_nil _ _ _ _,trivial⟩,bR⟩,bD⟩,ZP⟩,by simp,by omega⟩
   (fun x a' W=>∃Bx,w.heap.size+1+1+1<Bx/\Blk W Bx tE (dV x.1).toArray/\a'={tmps:=#[.string s,undef,Pt w.heap.size,Pt (w.heap.size+1),Pt (w.heap.size+1+1),Pt Bx,Iv x.2,.string s,Iv s.size,.bool false,undef,.string s,.func (.func 73) #[] #[Pt (w.heap.size+1+1+1)],iF x.1,Iv x.2,undef,undef,undef,undef,undef,undef,undef,undef,undef,undef,undef,undef],defers:=[]})
   (fun x a' _ X Y row hs hg hr=>by obtain ⟨Bx,h1,h2,h3⟩:=hs;exact ⟨Bx,h1,vP Bx tE (fun (_:Unit)=>(dV x.1).toArray) () X Y row h2 hg (fun r e=>(hr r e).2),h3⟩)
   ?assign ?body ?done ?stop
  case assign=>
   rintro l pre ⟨t,no⟩ W K hI hK;have PK:=hI.1.2.size;have hbO:w.heap.size+1+1+1<W.heap.size:=hI.2.2;have HI:=Hy hI;clear hI;simp only [iF]
   gi_wp2
   refine hK _ _ ((KeepsOthers.alloc _ _).from _) ⟨(Below.refl _ W).alloc PK _,fun hb=>hb.alloc _⟩ (EZ.own (zL _) pre W _ none HI (World.grownBy_alloc W _ none) (fun r e=>by cases e)) ⟨W.heap.size,hbO,(by have:=Blk.new W tE (dV t).toArray;exact this),rfl⟩
  case body=>
   rintro l pre x a' W hl ⟨r,hr⟩ hI ⟨Bx,hBx,bX,rfl⟩ hlt;obtain ⟨⟨⟨⟨⟨v,hv,ai,_⟩,OZ⟩,Ot⟩,eu⟩,NQ,hsW⟩:=hI;have hcv:=hv.cell;have hcR:=OZ.cell;have hfR:=OZ.frozen;have Yv:=Ot.cell 0;have Yu:=Ot.cell 1;have hfD0:=Ot.frozen 0;have hfD1:=Ot.frozen 1;have hX0:=bX.cell 0;have hX1:=bX.cell 1;have Og:=bX.cell 2;have hX3:=bX.cell 3;simp only [dV,List.getElem?_toArray,List.getElem?_cons_zero,List.getElem?_cons_succ] at hX0 hX1 Og hX3;simp at Yv Yu;obtain ⟨t,no⟩:=x;simp only at hX0 hX1 Og hX3;by_cases hno:no=0
   ·subst hno;have av:pre.length+1<=maxLen:=by unfold maxLen;omega
    have aU:(pre.length+1) * 40<=140737488355328:=by omega
    have wJ:∀j u,(dV t)[j]? =some u->(W.alloc (.cells #[Iv t.k,Iv t.p,Iv t.n,Ss t.s] tE)).cell? (((Ad W.heap.size 0):Addr).add j)=some u:=
     World.news_of_block (cs:=#[Iv t.k,Iv t.p,Iv t.n,Ss t.s]) (heap_alloc_new W _)
    have h1c:∀u∈dV t,u.oneCell'=true:=by simp [dV,Value.oneCell']
    gi_wp2_with (gi_at_builtin;refine wpListIn_append_own _ rfl _ _ tL rfl w.heap.size tE i0 (.agg #[Iv 0,Iv 0,Iv 0,.string ⟨#[]⟩]) 4 40 underlying51 hi vQ sI ru rfl (by decide) _ _ _ rfl (ai.alloc _) (Ad W.heap.size 0) 1 1 (dV t) rfl rfl wJ h1c av aU (by have:=eu.size;simp;omega) ?_;intro v' w1 WP aB _;obtain ⟨g',cap',rfl⟩:=ownsRow_succ WP;obtain ⟨Rl,CY,pY,hk2,DW⟩:=hv.appended (by decide) ai eu.size (by omega) WP aB;have Ab:=Rl.cell;have Q4:=Rl.frozen)
    refine ⟨hk2.from _,⟨DW,fun hb=>((hb.alloc _).kept aB (hb.not_row (by decide) ai)).other (by omega) _⟩,⟨⟨⟨⟨_,CY,?_,trivial⟩,((OZ.alloc _).kept aB (OZ.not_row (by decide) ai)).other (by omega) _⟩,((Ot.alloc _).kept aB (Ot.not_row (by decide) ai)).far (by simp) _⟩,eu.trans DW⟩,?_,Nat.lt_of_lt_of_le hsW DW.size⟩
    ·rw [List.map_append,List.map_cons,List.map_nil,qg,List.length_append];exact pY
    ·intro y hy;rcases List.mem_append.1 hy with h|h
     ·exact NQ y h
     ·simp at h;subst h;rfl
   ·have hno':(no != 0)=true:=by simpa using hno
    gi_wp2
    have Si:prog.follows .mixedOrders=true:=by kernel_rfl
    gi_region_with_o (fail)
    all_goals gi_wp2
    all_goals (try go_bits)
    all_goals exact ⟨((((KeepsOthers.setCell _ _ _).trans (KeepsOthers.setCell _ _ _)).trans (KeepsOthers.setCell _ _ _)).trans (KeepsOthers.drew _)).from _,⟨(pre,t,no),⟨Nr OZ _ _ (by omega),Ns Ot _ _ _ (by omega)⟩,(((eu.setCell (p:=Ad w.heap.size 0) (zL _) _).setCell (p:=(Ad (w.heap.size+1) 0)) (by simp) _).setCell (p:=(Ad (w.heap.size+1) 1)) (by simp) _).drew,rfl,rfl,hno,NQ⟩⟩
  case done=>
   rintro D ys W hD rfl ⟨⟨⟨⟨⟨v,hv,ai,_⟩,OZ⟩,Ot⟩,eu⟩,NQ,hsW⟩ hK;have hcv:=hv.cell;have hcR:=OZ.cell;have hfR:=OZ.frozen;have Yv:=Ot.cell 0;have Yu:=Ot.cell 1;have hfD0:=Ot.frozen 0;have hfD1:=Ot.frozen 1;simp at Yv Yu;have QS:=zM NQ;have HR:=Hy QS;clear QS;obtain ⟨A,c,rfl⟩:∃A c,v=.slice A (kW s.data.toList).length c:=by
    rcases ai.2 with ⟨rfl,h0⟩|⟨g,cap,cur,rfl,_⟩
    ·exact ⟨none,0,by rw [h0]⟩
    ·exact ⟨_,_,rfl⟩
   have OM:=Hy (Gp (x:=Iv 0) (y:=Iv 0) (by omega:w.heap.size+1<D) rfl OZ Ot ai eu hK (.slice A (kW s.data.toList).length c))
   clear hK ai eu OZ Ot
   gi_wp2
   obtain ⟨e1,e2,e3,e4,e5⟩:=OM;refine ⟨by simp,.inl ⟨_,_,rfl,run_takeDeferred e1,?_⟩⟩
   rw [HR.out];exact ⟨_,lV rfl _ _ rfl rfl e2 e3,_,rfl,by rw [List.length_map];exact e4,e5⟩
  case stop=>
   rintro D c pre W hD XR ⟨⟨p,t,no⟩,⟨OZ,Ot⟩,eu,rfl,T9,hno,NQ⟩ hK;have QS:=yz XR T9 NQ hno;obtain ⟨e2,e3,e5⟩:=D6 (by omega:w.heap.size+1<D) rfl OZ Ot eu hK
   gi_wp2
   refine ⟨by simp,.inl ⟨_,_,rfl,run_takeDeferred hK,?_⟩⟩
   first|rw [QS]|skip
   exact ⟨_,lV rfl _ _ rfl rfl e2 e3,_,rfl,World.ownsRow_nil _ _ _ _,e5⟩
theorem Aa (s:ByteArray)(hs:s.size<=maxLen)(w:World)(hE:Env w) :
  Calls prog 17 #[.string s] w (vW w (gm s.data.toList)):=callsIn_wide.1 (Km s hs w hE)
end
section
open Go.RowKit
def RdT (w:World) (B:Nat) (A:Option Addr) (toks:List Tok):Prop:=
 toks=[]∨∃g o,A=some (Ad g o)/\g<B/\∀i t,toks[i]? =some t->
  Ce w g (o+i * 4) (Iv t.k)/\Ce w g (o+i * 4+1) (Iv t.p)/\Ce w g (o+i * 4+2) (Iv t.n)/\Ce w g (o+i * 4+3) (Ss t.s)
theorem RdT.keep {w w':World}{B:Nat}{A:Option Addr}{toks:List Tok}(h:RdT w B A toks)(hk:∀g o,g<B->w'.cell? (Ad g o)=w.cell? (Ad g o)):RdT w' B A toks:=by
 rcases h with h|⟨g,o,e,hg,hc⟩
 ·exact .inl h
 ·exact .inr ⟨g,o,e,hg,fun i t ht=>by obtain ⟨h0,h1,h2,h3⟩:=hc i t ht;exact ⟨(hk _ _ hg).trans h0,(hk _ _ hg).trans h1,(hk _ _ hg).trans h2,(hk _ _ hg).trans h3⟩⟩
theorem RdT.below {w w':World}{B:Nat}{A:Option Addr}{toks:List Tok}(h:RdT w B A toks)(hb:Below B w w'):RdT w' B A toks:=h.keep fun g o hg=>hb.cell (p:=Ad g o) hg
theorem RdT.more {w:World}{B B':Nat}{A:Option Addr}{toks:List Tok}(h:RdT w B A toks)(hB:B<=B'):RdT w B' A toks:=by
 rcases h with h|⟨g,o,e,hg,hc⟩
 ·exact .inl h
 ·exact .inr ⟨g,o,e,by omega,hc⟩
theorem RdT.at_ {w:World}{B:Nat}{A:Option Addr}{toks:List Tok}(h:RdT w B A toks){i:Nat}(hi:i<toks.length):∃g o,A=some (Ad g o)/\g<B/\
  Ce w g (o+i * 4) (Iv (toks[i]).k)/\Ce w g (o+i * 4+1) (Iv (toks[i]).p)/\Ce w g (o+i * 4+2) (Iv (toks[i]).n)/\Ce w g (o+i * 4+3) (.string (str (toks[i]).s)):=by
 rcases h with rfl|⟨g,o,e,hg,hc⟩
 ·simp at hi
 ·exact ⟨g,o,e,hg,hc i _ (zE hi)⟩
theorem Cc (toks:List Tok)(i j:Nat)(hj:j<4):(fT toks)[i * 4+j]? =(toks[i]?).bind fun t=>(dV t)[j]?:=by
 induction toks generalizing i with
 |nil=>simp [fT]
 |cons t l ih=>
  have e:fT (t ::l)=dV t ++ fT l:=by simp [fT]
  rw [e];cases i with
  |zero=>rw [List.getElem?_append_left (by simp [dV];omega)];simp
  |succ i=>
   rw [List.getElem?_append_right (by simp [dV];omega)]
   have:(i+1) * 4+j - (dV t).length=i * 4+j:=by simp [dV];omega
   rw [this,ih];simp
theorem RdT.JY {w:World}{base:Nat}{toks:List Tok}{A:Option Addr}{n c:Nat}(h:w.ownsRow base tE 4 (.slice A n c) n (fT toks))(hn:toks.length=n):RdT w w.heap.size A toks/\n<=c/\c<=maxLen:=by
 rcases h.2 with ⟨hv,h0⟩|⟨g,cap,cur,hv,_,hh,U8,PI,sQ,xc⟩
 ·have:toks=[]:=List.eq_nil_of_length_eq_zero (by omega)
  simp only [Value.slice.injEq] at hv;exact ⟨.inl this,by omega,by unfold maxLen;omega⟩
 ·simp only [Value.slice.injEq] at hv;obtain ⟨rfl,_,rfl⟩:=hv;refine ⟨.inr ⟨g,0,rfl,(Array.getElem?_eq_some_iff.1 hh).1,fun i t ht=>?_⟩,U8,PI⟩
  have hi:i<toks.length:=(zS.1 ht).1;have key:∀j,j<4->w.cell? (Ad g (0+i * 4+j))=(dV t)[j]?:=by
   intro j hj;rw [cell_of_row w g _ cur tE (0,0) hh];have e1:=Cc toks i j hj;rw [ht] at e1;simp only [Option.bind_some] at e1;rw [<-e1,<-xc,List.getElem?_take_of_lt (by omega),Array.getElem?_toList]
   congr 1
   omega
  exact ⟨key 0 (by omega),key 1 (by omega),key 2 (by omega),key 3 (by omega)⟩
def Ni (w:World) (toks:List Tok) (e:Ending) (w':World):Prop:=
 ∃v,e=.returned v/\w'.ownsRow w.heap.size tE 4 v toks.length (fT toks)/\Zw w w'
theorem RdT.take {w:World}{B:Nat}{A:Option Addr}{l m:List Tok}(h:RdT w B A (l ++ m)):RdT w B A l:=by
 rcases h with h|⟨g,o,e,hg,hc⟩
 ·exact .inl (List.append_eq_nil_iff.1 h).1
 ·exact .inr ⟨g,o,e,hg,fun i t ht=>hc i t (by rw [List.getElem?_append_left (zS.1 ht).1];exact ht)⟩
def EO (l:List Tok):List Tok:=l.map fun t=>t.to 0
end
section
open Go.RowKit Go.Shelf
def txt (t:Tok):List UInt8:=if t.k=2 then Lib.itoa t.n ++ t.s else t.s
def uC (l:List Tok):List (List UInt8):=(l.filter fun t=>decide (t.k≠4)).map txt
def xX (t:Tok):Prop:=t.s.length<=24/\ -9223372036854775808<=t.n/\t.n<=9223372036854775807
def ry (a x:List UInt8):List UInt8:=if a=[] then x else a ++ 32 ::x
def jn (l:List (List UInt8)):List UInt8:=l.foldl ry []
end
end Go.Proofs.YtcchdlnfeijinaaGreatDoor
